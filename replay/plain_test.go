package replay_test

import (
	"fmt"
	"slices"
	"strings"
	"testing"

	"tollbar/api"
	"tollbar/entry"
	"tollbar/model"
	"tollbar/replay"
	"tollbar/sample"
)

// plain is a log that is gone through as the chapter's words tell it: the model behind each beginning of it that is right, and what is wrong with the entry behind the longest one.
type plain struct {
	l     []api.Entry
	ahead []*model.Model
	wrong api.Errno
}

func isCommit(x api.Entry) bool { return x.Kind >= 1 && x.Kind <= 11 }

// gone answers l, gone through; nil, and the error, if there is no model.
func gone(p api.Program, most int, l []api.Entry) (*plain, api.Errno) {
	m, e := model.New(p, most)
	if e != api.OK {
		return nil, e
	}
	g := &plain{ahead: []*model.Model{m}}
	for _, x := range l {
		if g = g.with(x); g.wrong != api.OK {
			break
		}
	}
	g.l = l
	return g, api.OK
}

// with answers g and x behind it.
func (g *plain) with(x api.Entry) *plain {
	n := len(g.l)
	h := &plain{l: append(slices.Clone(g.l), x), ahead: slices.Clone(g.ahead)}
	switch m := g.ahead[n].Copy(); {
	case entry.Check(x) != api.OK:
		h.wrong = api.ErrArg
	case n > 0 && x.At < g.l[n-1].At:
		h.wrong = api.ErrBack
	case isCommit(x):
		h.wrong = m.Apply(x)
		h.ahead = append(h.ahead, m)
	default:
		h.ahead = append(h.ahead, m)
	}
	if h.wrong != api.OK {
		h.ahead = h.ahead[:n+1]
	}
	return h
}

// right is how many entries are.
func (g *plain) right() int { return len(g.ahead) - 1 }

// last is the place of the last entry ahead of at that is so; -1, if there is none.
func (g *plain) last(at int, so func(x api.Entry) bool) int {
	for k := at - 1; k >= 0; k-- {
		if so(g.l[k]) {
			return k
		}
	}
	return -1
}

// What a poll wants to be true; all is none of these.
const (
	there  = "its task"
	locks  = "locks"
	before = "what was ready"
	behind = "what is ready"
	all    = "nothing"
)

// wants is what the poll at that place wants first to be true.
func (g *plain) wants(at int) string {
	x := g.l[at]
	if _, is := g.ahead[at].Task(x.Task); !is {
		return there
	}
	locked := g.last(at, func(y api.Entry) bool { return y.Kind == api.MLocked && y.Task == x.Task })
	committed := g.last(at, func(y api.Entry) bool { return isCommit(y) && y.Task == x.Task })
	if locked < 0 || locked <= committed {
		return locks
	}
	ready := func(k int) api.Set {
		s, is := g.ahead[k].Ready(x.Task)
		if !is {
			return 0
		}
		return s
	}
	if ready(locked)|x.Set != ready(locked) {
		return before
	}
	for k := at + 1; k < len(g.l); k++ {
		if isCommit(g.l[k]) && g.l[k].Task == x.Task {
			if x.Set|ready(k) != x.Set {
				return behind
			}
			break
		}
	}
	return all
}

// polls is what Polls must answer.
func (g *plain) polls() (int, bool) {
	if g.wrong != api.OK {
		return 0, false
	}
	for at, x := range g.l {
		if x.Kind == api.MPoll && g.wants(at) != all {
			return at, false
		}
	}
	return len(g.l), true
}

// stands is what Stands must answer of a log that is right.
func (g *plain) stands() (l []api.Frame) {
	for at, x := range g.l {
		if isCommit(x) && x.Kind != api.CWake && (x.Kind != api.CFault || x.Peer == -1) {
			f, e := g.ahead[at].Stand(x.Task)
			if e != api.OK {
				panic(e)
			}
			l = append(l, f)
		}
	}
	return l
}

// state tells all of a model, as a text.
func state(m *model.Model) string {
	if m == nil {
		return "none"
	}
	var b strings.Builder
	for task := range m.Tasks() {
		x, _ := m.Task(task)
		fmt.Fprint(&b, x, m.Moves(task))
	}
	for ch := 0; m.Chan(ch) != nil; ch++ {
		c := m.Chan(ch)
		fmt.Fprint(&b, c.Cap(), c.Closed(), c.Buffer(), c.Row(true), c.Row(false))
	}
	who, e := m.Fault()
	fmt.Fprint(&b, who, int(e))
	return b.String()
}

// lines are those of a log, for what fails to be told.
func lines(l []api.Entry) string {
	var all []string
	for _, x := range l {
		line, e := entry.Line(x)
		if e != api.OK {
			line = fmt.Sprintf("%+v", x)
		}
		all = append(all, line)
	}
	return strings.Join(all, ", ")
}

// refused fails, unless each function answers that there is nothing, for that error at that place.
func refused(t *testing.T, p api.Program, most int, l []api.Entry, at int, e api.Errno) {
	t.Helper()
	if k, got := replay.Check(p, most, l...); k != at || got != e {
		t.Fatalf("of %+v: Check(%s) is %d, %v, not %d, %v", p, lines(l), k, got, at, e)
	}
	if m, got := replay.Run(p, most, l...); m != nil || got != e {
		t.Fatalf("of %+v: Run(%s) is %v, %v", p, lines(l), m, got)
	}
	if k, is := replay.Polls(p, most, l...); k != 0 || is {
		t.Fatalf("of %+v: Polls(%s) is %d, %v", p, lines(l), k, is)
	}
	if f, got := replay.Stands(p, most, l...); len(f) != 0 || got != e {
		t.Fatalf("of %+v: Stands(%s) is %v, %v", p, lines(l), f, got)
	}
}

// held fails, unless each function answers of g what it must.
func held(t *testing.T, p api.Program, most int, g *plain) {
	t.Helper()
	if g.wrong != api.OK {
		refused(t, p, most, g.l, g.right(), g.wrong)
		return
	}
	if k, e := replay.Check(p, most, g.l...); k != len(g.l) || e != api.OK {
		t.Fatalf("of %+v: Check(%s) is %d, %v", p, lines(g.l), k, e)
	}
	if m, e := replay.Run(p, most, g.l...); state(m) != state(g.ahead[len(g.l)]) || e != api.OK {
		t.Fatalf("of %+v: Run(%s) is %v, %v", p, lines(g.l), state(m), e)
	}
	if f, e := replay.Stands(p, most, g.l...); !slices.Equal(f, g.stands()) || e != api.OK {
		t.Fatalf("of %+v: Stands(%s) is %v, %v, not %v", p, lines(g.l), f, e, g.stands())
	}
	polled(t, p, most, g)
}

// polled fails, unless Polls answers of g what it must.
func polled(t *testing.T, p api.Program, most int, g *plain) {
	t.Helper()
	at, is := g.polls()
	if k, got := replay.Polls(p, most, g.l...); k != at || got != is {
		t.Fatalf("of %+v: Polls(%s) is %d, %v, not %d, %v", p, lines(g.l), k, got, at, is)
	}
}

// maker makes a log of numbers that the first one alone tells.
type maker struct {
	from, step int
	g          *plain
	at         int64
	polled     map[int]api.Set // what was ready as each task had all locks
}

// below is the next number, from 0 on, below n.
func (k *maker) below(n int) int {
	k.step++
	return int(sample.Mix(k.from+k.step) % uint64(n))
}

// now is the model behind all that is made.
func (k *maker) now() *model.Model { return k.g.ahead[len(k.g.l)] }

// put puts x last, as late as the one ahead, or later.
func (k *maker) put(x api.Entry) {
	k.at += int64(k.below(3))
	x.At = k.at
	k.g = k.g.with(x)
}

// task is one that is there, rather one that stands at a select, seldom one that is not there.
func (k *maker) task() (task int) {
	n := k.now().Tasks()
	if k.below(16) == 0 {
		n = 32
	}
	for range 3 {
		task = k.below(n)
		if _, is := k.now().Ready(task); is {
			break
		}
	}
	return task
}

// set is what a poll of that task tells, true or not.
func (k *maker) set(task int) api.Set {
	now, _ := k.now().Ready(task)
	switch k.below(8) {
	case 0, 1:
		return now
	case 2, 3:
		return k.polled[task]
	case 4:
		return now ^ 1<<k.below(6)
	case 5:
		return k.polled[task] ^ 1<<k.below(64)
	case 6:
		return k.polled[task] & api.Set(k.below(64))
	}
	return api.Set(k.below(16))
}

// mark puts one.
func (k *maker) mark() {
	x := api.Entry{Worker: k.below(255), Task: k.task()}
	switch k.below(8) {
	case 0, 1, 2:
		x.Kind = api.MLocked
		k.polled[x.Task], _ = k.now().Ready(x.Task)
	case 3, 4, 5:
		x.Kind, x.Set = api.MPoll, k.set(x.Task)
	case 6:
		x.Kind = []uint8{api.MDispatch, api.MReady, api.MPreempt}[k.below(3)]
	default:
		x.Kind, x.Task = api.MFree, 0
	}
	k.put(x)
}

// moves are all that can be now.
func (k *maker) moves() (l []api.Entry) {
	m := k.now()
	for task := range m.Tasks() {
		l = append(l, m.Moves(task)...)
	}
	return l
}

// commit puts one, if there is one, seldom a fault: that ends all.
func (k *maker) commit() {
	l := k.moves()
	if len(l) == 0 {
		return
	}
	x := l[k.below(len(l))]
	for range 9 {
		if x.Kind != api.CFault {
			break
		}
		x = l[k.below(len(l))]
	}
	k.put(x)
}

// endless is whether a task runs that has no stand: it takes long to find that out.
func endless(m *model.Model) bool {
	for task := range m.Tasks() {
		if _, e := m.Stand(task); e == api.ErrLong {
			return true
		}
	}
	return false
}

// made is a log of about so many entries that n tells, that is right; short, as soon as a task has no stand.
func made(t *testing.T, p api.Program, most, n, length int) *plain {
	t.Helper()
	g, e := gone(p, most, nil)
	if e != api.OK {
		t.Fatalf("%+v: %v", p, e)
	}
	k := &maker{from: n << 20, g: g, polled: map[int]api.Set{}}
	for range length {
		if k.below(5) < 2 {
			k.commit()
		} else {
			k.mark()
		}
		if endless(k.now()) {
			break
		}
	}
	return k.g
}

// logs goes over so many logs that are right, of many programs, with their programs and room.
func logs(t *testing.T, many, length int) func(yield func(n int, c course) bool) {
	return func(yield func(n int, c course) bool) {
		for n := range many {
			p := sample.Crowd(n)
			if n%8 == 7 {
				p = sample.Made(n)
			}
			most := 1 + n%7
			if !yield(n, course{p, most, made(t, p, most, n, length)}) {
				return
			}
		}
	}
}

// course is a log of a program, with room for so many tasks.
type course struct {
	p    api.Program
	most int
	g    *plain
}
