package replay

import "tollbar/api"

// poll is one that may be true: its place, and which cases were ready by it.
type poll struct {
	at  int
	set api.Set
}

// locked is what is kept of a task from an MLocked of it up to its next commit: what was ready ahead of the last MLocked, and the polls behind, which that commit decides.
type locked struct {
	ready api.Set
	polls []poll
}

// polls judges those of a run. A task has no locks, till there is an MLocked of it behind its last commit.
type polls struct {
	r     *run
	locks map[int]locked
	wrong int // the place of the first one that is known not to be true
}

// within answers whether all of s are in t.
func within(s, t api.Set) bool { return s&^t == 0 }

// ready answers which cases of a task are ready now: none, where the model tells nothing.
func (p *polls) ready(task int) api.Set {
	s, _ := p.r.m.Ready(task)
	return s
}

// untrue notes that the poll at that place is not true: a later one may be found out earlier.
func (p *polls) untrue(at int) { p.wrong = min(p.wrong, at) }

// lock notes what is ready as all locks of a task's select are held.
func (p *polls) lock(task int) {
	k := p.locks[task]
	k.ready = p.ready(task)
	p.locks[task] = k
}

// poll judges x, as far as what stands ahead of it tells.
func (p *polls) poll(x api.Entry) {
	_, there := p.r.m.Task(x.Task)
	k, held := p.locks[x.Task]
	if !there || !held || !within(x.Set, k.ready) {
		p.untrue(p.r.done)
		return
	}
	k.polls = append(k.polls, poll{p.r.done, x.Set})
	p.locks[x.Task] = k
}

// commit decides the polls of a task that commits something now.
func (p *polls) commit(task int) {
	k := p.locks[task]
	delete(p.locks, task)
	if len(k.polls) == 0 {
		return
	}
	now := p.ready(task)
	for _, x := range k.polls {
		if !within(now, x.set) {
			p.untrue(x.at)
		}
	}
}

// Polls answers how many entries l has, and whether each of its polls is true; else the place of the first one that is not.
func Polls(p api.Program, most int, l ...api.Entry) (int, bool) {
	r := begun(p, most)
	all := polls{r: r, locks: map[int]locked{}, wrong: len(l)}
entries:
	for x := range r.through(l) {
		switch x.Kind {
		case api.MDispatch, api.MReady, api.MPreempt, api.MFree:
			continue entries
		case api.MLocked:
			all.lock(x.Task)
		case api.MPoll:
			all.poll(x)
		default:
			all.commit(x.Task)
		}
	}
	if r.wrong != api.OK {
		return 0, false
	}
	return all.wrong, all.wrong == len(l)
}
