package sched_test

import (
	"math"
	"slices"
	"testing"

	"tollbar/api"
	"tollbar/fifo"
	"tollbar/sample"
	"tollbar/sched"
)

// outside are no tasks' numbers; many have the low bits of one.
func outside() []int {
	return []int{-1, -2, -31, -32, 32, 33, 63, 64, 255, 256, 1 << 16, 1 << 31, 1 << 32, 1<<32 + 1, 1<<32 + 5, -1 << 32, -1<<32 + 1, 1 << 62, math.MaxInt, math.MinInt, math.MinInt + 1}
}

// plain is a scheduler as the chapter's words tell it.
type plain struct {
	most, made, live, busy int
	ready                  []int
}

func (p *plain) make() (int, api.Errno) {
	if p.made == p.most {
		return 0, api.ErrFull
	}
	p.ready = append(p.ready, p.made)
	p.made++
	p.live++
	return p.made - 1, api.OK
}

func (p *plain) next() (int, uint8) {
	if len(p.ready) > 0 {
		first := p.ready[0]
		p.ready = slices.Clone(p.ready[1:])
		p.busy++
		return first, api.SnTask
	}
	if p.busy > 0 {
		return 0, api.SnIdle
	}
	if p.live == 0 {
		return 0, api.SnDone
	}
	return 0, api.SnStop
}

func (p *plain) push(task int) api.Errno {
	if task < 0 || task > p.made-1 {
		return api.ErrArg
	}
	if slices.Contains(p.ready, task) {
		return api.ErrHave
	}
	p.ready = append(p.ready, task)
	return api.OK
}

func (p *plain) back(task int) api.Errno {
	if p.busy == 0 {
		return api.ErrNone
	}
	e := p.push(task)
	if e == api.OK {
		p.busy--
	}
	return e
}

func (p *plain) leave() api.Errno {
	if p.busy == 0 {
		return api.ErrNone
	}
	p.busy--
	return api.OK
}

func (p *plain) end() api.Errno {
	if p.busy == 0 || p.live == 0 {
		return api.ErrNone
	}
	p.busy--
	p.live--
	return api.OK
}

func (p *plain) copied() *plain {
	q := *p
	q.ready = slices.Clone(p.ready)
	return &q
}

// made answers a scheduler of so many, and what it is by the chapter's words.
func made(t *testing.T, most int) (*sched.Sched, *plain) {
	t.Helper()
	s, e := sched.New(most)
	if s == nil || e != api.OK {
		t.Fatalf("New(%d) is %v, %v", most, s, e)
	}
	return s, &plain{most: most}
}

// same fails, unless s is as p tells it.
func same(t *testing.T, s *sched.Sched, p *plain) {
	t.Helper()
	if s.Made() != p.made || s.Live() != p.live || s.Busy() != p.busy {
		t.Fatalf("%d made, %d live, %d at work, not %d, %d, %d", s.Made(), s.Live(), s.Busy(), p.made, p.live, p.busy)
	}
	if l := s.List(); !slices.Equal(l, p.ready) {
		t.Fatalf("List is %v, not %v", l, p.ready)
	}
}

func makes(t *testing.T, s *sched.Sched, p *plain) {
	t.Helper()
	n, e := s.Make()
	if wn, we := p.make(); n != wn || e != we {
		t.Fatalf("Make is %d, %v, not %d, %v", n, e, wn, we)
	}
	same(t, s, p)
}

func next(t *testing.T, s *sched.Sched, p *plain) (int, uint8) {
	t.Helper()
	task, what := s.Next()
	if wt, ww := p.next(); task != wt || what != ww {
		t.Fatalf("Next is %d, %d, not %d, %d", task, what, wt, ww)
	}
	same(t, s, p)
	return task, what
}

func push(t *testing.T, s *sched.Sched, p *plain, task int) {
	t.Helper()
	if e, want := s.Push(task), p.push(task); e != want {
		t.Fatalf("Push(%d) is %v, not %v", task, e, want)
	}
	same(t, s, p)
}

func back(t *testing.T, s *sched.Sched, p *plain, task int) {
	t.Helper()
	if e, want := s.Back(task), p.back(task); e != want {
		t.Fatalf("Back(%d) is %v, not %v", task, e, want)
	}
	same(t, s, p)
}

func leave(t *testing.T, s *sched.Sched, p *plain) {
	t.Helper()
	if e, want := s.Leave(), p.leave(); e != want {
		t.Fatalf("Leave is %v, not %v", e, want)
	}
	same(t, s, p)
}

func end(t *testing.T, s *sched.Sched, p *plain) {
	t.Helper()
	if e, want := s.End(), p.end(); e != want {
		t.Fatalf("End is %v, not %v", e, want)
	}
	same(t, s, p)
}

// do does one thing to s, and to p, as a number tells it.
func do(t *testing.T, s *sched.Sched, p *plain, seed, k int) {
	t.Helper()
	x := sample.Mix(seed<<24 + k)
	task := int(x>>8%uint64(p.made+2)) - 1
	switch x % 16 {
	case 0, 1:
		makes(t, s, p)
	case 2, 3, 4, 5, 6:
		next(t, s, p)
	case 7, 8:
		push(t, s, p, task)
	case 9, 10, 11:
		back(t, s, p, task)
	case 12, 13:
		leave(t, s, p)
	default:
		if x>>40%3 == 0 {
			end(t, s, p)
		}
	}
}

// each does all that is to be done with schedulers of many states, of each size.
func each(t *testing.T, all func(s *sched.Sched, p *plain)) {
	t.Helper()
	for seed := range 96 {
		s, p := made(t, 1+seed%api.MaxTasks)
		for k := range seed * 3 {
			do(t, s, p, seed, k)
		}
		all(s, p)
	}
	for _, most := range []int{1, 2, 5, 31, 32} { // all that may be are made, and so many are at work
		for at := range most + 1 {
			s, p := made(t, most)
			for range most {
				makes(t, s, p)
			}
			for range at {
				next(t, s, p)
			}
			all(s, p)
		}
	}
}

func TestExample(t *testing.T) {
	s, _ := made(t, 2)
	is := func(task int, what uint8) {
		t.Helper()
		if k, w := s.Next(); k != task || w != what {
			t.Fatalf("Next is %d, %d, not %d, %d", k, w, task, what)
		}
	}
	for k := range 2 {
		if n, e := s.Make(); n != k || e != api.OK {
			t.Fatal(n, e)
		}
	}
	is(0, api.SnTask)
	is(1, api.SnTask)
	is(0, api.SnIdle)
	if e := s.Back(1); e != api.OK {
		t.Fatal(e)
	}
	is(1, api.SnTask)
	if a, b := s.Leave(), s.Leave(); a != api.OK || b != api.OK {
		t.Fatal(a, b)
	}
	is(0, api.SnStop)
	if e := s.Push(0); e != api.OK {
		t.Fatal(e)
	}
	is(0, api.SnTask)
	if e := s.End(); e != api.OK {
		t.Fatal(e)
	}
	is(0, api.SnStop) // 1 lives, and is left
}

func TestP231New(t *testing.T) {
	for most := -40; most < 300; most++ {
		s, e := sched.New(most)
		if most < 1 || most > 32 {
			if s != nil || e != api.ErrArg {
				t.Errorf("New(%d) is %v, %v", most, s, e)
			}
			continue
		}
		if s == nil || e != api.OK {
			t.Fatalf("New(%d) is %v, %v", most, s, e)
		}
		p := &plain{most: most}
		same(t, s, p)
		next(t, s, p)
	}
	for _, most := range outside() {
		if most == api.MaxTasks { // none that is a task's number, but so many may be made
			continue
		}
		if s, e := sched.New(most); s != nil || e != api.ErrArg {
			t.Errorf("New(%d) is %v, %v", most, s, e)
		}
	}
}

// TestP231NewOthers: two that were made of the same number know nothing of each other.
func TestP231NewOthers(t *testing.T) {
	a, p := made(t, 3)
	b, q := made(t, 3)
	makes(t, a, p)
	next(t, a, p)
	same(t, b, q)
	makes(t, b, q)
	same(t, a, p)
}

// TestP231Make: they are numbered from 0 on, up to the most, and stand in that order; whatever became of them none is made beyond that.
func TestP231Make(t *testing.T) {
	for most := 1; most <= api.MaxTasks; most++ {
		s, p := made(t, most)
		for k := range most {
			if n, e := s.Make(); n != k || e != api.OK {
				t.Fatal(n, e)
			}
			p.make()
			same(t, s, p)
		}
		for range 3 {
			makes(t, s, p)
		}
		for range most { // as many as were made end: that makes no room
			next(t, s, p)
			makes(t, s, p)
			end(t, s, p)
			makes(t, s, p)
		}
		if n, e := s.Make(); n != 0 || e != api.ErrFull {
			t.Fatal(n, e)
		}
	}
}

// TestP231MakeBehind: one that is made stands behind all that are ready, whoever they are.
func TestP231MakeBehind(t *testing.T) {
	s, p := made(t, 5)
	makes(t, s, p)
	makes(t, s, p)
	next(t, s, p)
	back(t, s, p, 0)
	makes(t, s, p)
	next(t, s, p)
	leave(t, s, p)
	push(t, s, p, 1)
	makes(t, s, p)
	if l := s.List(); !slices.Equal(l, []int{0, 2, 1, 3}) {
		t.Error(l)
	}
}

// TestP231Next: the first one is taken out, and is at work.
func TestP231Next(t *testing.T) {
	each(t, func(s *sched.Sched, p *plain) {
		for len(p.ready) > 0 {
			first, busy, live := p.ready[0], s.Busy(), s.Live()
			task, what := s.Next()
			if task != first || what != api.SnTask || s.Busy() != busy+1 || s.Live() != live {
				t.Fatal(task, what, first)
			}
			p.next()
			same(t, s, p)
		}
	})
}

// TestP231Finds: of none that is ready it is idle while any is at work, else done, or at a stop; and asked again it tells the same.
func TestP231Finds(t *testing.T) {
	for n := range 6 {
		for ended := range n + 1 {
			for left := range n - ended + 1 {
				s, p := made(t, 6)
				for range n {
					makes(t, s, p)
				}
				for range n {
					next(t, s, p)
				}
				for range ended {
					end(t, s, p)
				}
				for range left {
					leave(t, s, p)
				}
				want := uint8(api.SnIdle)
				switch n {
				case ended:
					want = api.SnDone
				case ended + left:
					want = api.SnStop
				}
				for range 2 {
					if task, what := s.Next(); task != 0 || what != want {
						t.Fatalf("%d made, %d ended, %d left: Next is %d, %d, not %d", n, ended, left, task, what, want)
					}
					same(t, s, p)
				}
			}
		}
	}
}

// TestP231FindsReady: who is ready is found, though others are at work, and though none lives.
func TestP231FindsReady(t *testing.T) {
	s, p := made(t, 1)
	makes(t, s, p)
	next(t, s, p)
	end(t, s, p)
	push(t, s, p, 0)
	if task, what := next(t, s, p); task != 0 || what != api.SnTask {
		t.Error(task, what)
	}
	if _, what := next(t, s, p); what != api.SnIdle {
		t.Error(what)
	}
	leave(t, s, p)
	if _, what := next(t, s, p); what != api.SnDone {
		t.Error(what)
	}
}

// TestP232Push: each that was made and is not ready is the last one then; nobody is less, or more, at work.
func TestP232Push(t *testing.T) {
	each(t, func(s *sched.Sched, p *plain) {
		for task := -2; task < 36; task++ {
			c, q := s.Copy(), p.copied()
			push(t, c, q, task)
			push(t, c, q, task)
			same(t, s, p)
		}
		for _, task := range outside() {
			if e := s.Push(task); (task < p.made && task >= 0) == (e == api.ErrArg) {
				t.Fatalf("Push(%d) is %v", task, e)
			}
			same(t, s, p)
		}
	})
}

// TestP232PushAsRow: what Push answers of one that was made is what the row's own Push answers.
func TestP232PushAsRow(t *testing.T) {
	for seed := range 30 {
		s, p := made(t, api.MaxTasks)
		row, _ := fifo.New(api.MaxTasks)
		for k := range 40 {
			if n, e := s.Make(); e == api.OK {
				row.Push(n)
			}
			if x := sample.Mix(seed<<16 + k); x%3 > 0 {
				s.Next()
				row.Pop()
			}
		}
		for task := range s.Made() {
			if a, b := s.Push(task), row.Push(task); a != b {
				t.Fatal(task, a, b)
			}
		}
		if a, b := s.List(), row.List(); !slices.Equal(a, b) || len(a) != p.most {
			t.Fatal(a, b)
		}
	}
}

// TestP232PushAtWork: one that is at work may be pushed; that lets nobody be less at work.
func TestP232PushAtWork(t *testing.T) {
	s, p := made(t, 2)
	makes(t, s, p)
	for n := range 40 {
		if task, what := next(t, s, p); task != 0 || what != api.SnTask || s.Busy() != n+1 {
			t.Fatal(task, what, s.Busy())
		}
		push(t, s, p, 0)
	}
	for range 40 {
		leave(t, s, p)
	}
	leave(t, s, p)
}

// TestP232Back: it is ready, the last one, and one fewer is at work; where that is refused all stays.
func TestP232Back(t *testing.T) {
	each(t, func(s *sched.Sched, p *plain) {
		for _, task := range append(outside(), 0, 1, 2, 3, 4, 5, 15, 30, 31) {
			c, q := s.Copy(), p.copied()
			for range 3 {
				back(t, c, q, task)
			}
		}
		for k := range 40 {
			back(t, s, p, k)
		}
	})
}

// TestP232BackFirst: that nobody is at work is told ahead of what Push would tell.
func TestP232BackFirst(t *testing.T) {
	s, p := made(t, 2)
	makes(t, s, p)
	for _, task := range append(outside(), 0, 1) {
		if e := s.Back(task); e != api.ErrNone {
			t.Errorf("Back(%d) is %v", task, e)
		}
	}
	makes(t, s, p)
	next(t, s, p)
	for _, task := range append(outside(), 2) {
		if e := s.Back(task); e != api.ErrArg {
			t.Errorf("Back(%d) is %v", task, e)
		}
	}
	if e := s.Back(1); e != api.ErrHave {
		t.Error(e)
	}
	same(t, s, p)
}

// TestP232Leave: one fewer is at work, while any is; nothing else changes.
func TestP232Leave(t *testing.T) {
	each(t, func(s *sched.Sched, p *plain) {
		for n := s.Busy(); n > 0; n-- {
			if e := s.Leave(); e != api.OK || s.Busy() != n-1 {
				t.Fatal(n, e, s.Busy())
			}
			p.busy--
			same(t, s, p)
		}
		for range 2 {
			if e := s.Leave(); e != api.ErrNone {
				t.Fatal(e)
			}
			same(t, s, p)
		}
	})
}

// TestP232End: one fewer is at work, and one fewer lives, while any does; nothing else changes.
func TestP232End(t *testing.T) {
	each(t, func(s *sched.Sched, p *plain) {
		for s.Busy() > 0 && s.Live() > 0 {
			busy, live := s.Busy(), s.Live()
			if e := s.End(); e != api.OK || s.Busy() != busy-1 || s.Live() != live-1 {
				t.Fatal(e, s.Busy(), s.Live())
			}
			p.end()
			same(t, s, p)
		}
		for range 2 {
			if e := s.End(); e != api.ErrNone {
				t.Fatal(e)
			}
			same(t, s, p)
		}
	})
}

// TestP232EndNone: none ends if none is at work, and none if none lives, though one is at work.
func TestP232EndNone(t *testing.T) {
	s, p := made(t, 1)
	end(t, s, p)
	makes(t, s, p)
	if e := s.End(); e != api.ErrNone {
		t.Error(e)
	}
	next(t, s, p)
	end(t, s, p)
	push(t, s, p, 0)
	next(t, s, p)
	if e := s.End(); e != api.ErrNone || s.Busy() != 1 || s.Live() != 0 {
		t.Error(e, s.Busy(), s.Live())
	}
	leave(t, s, p)
	leave(t, s, p)
}

func TestP233Nil(t *testing.T) {
	var s *sched.Sched
	if n, e := s.Make(); n != 0 || e != api.ErrNil {
		t.Error(n, e)
	}
	if task, what := s.Next(); task != 0 || what != api.SnNone {
		t.Error(task, what)
	}
	for _, task := range append(outside(), 0, 1, 31) {
		if e := s.Push(task); e != api.ErrNil {
			t.Error(task, e)
		}
		if e := s.Back(task); e != api.ErrNil {
			t.Error(task, e)
		}
	}
	if a, b := s.Leave(), s.End(); a != api.ErrNil || b != api.ErrNil {
		t.Error(a, b)
	}
	if s.Made() != 0 || s.Live() != 0 || s.Busy() != 0 || len(s.List()) != 0 || s.Copy() != nil {
		t.Error(s.Made(), s.Live(), s.Busy(), s.List(), s.Copy())
	}
}

// TestP233ListIsNew: a list that was answered is nobody's but the asker's.
func TestP233ListIsNew(t *testing.T) {
	each(t, func(s *sched.Sched, p *plain) {
		l, was := s.List(), slices.Clone(p.ready)
		for k := range l {
			l[k] = 90 + k
		}
		_ = append(l, 99)
		same(t, s, p)
		again := s.List()
		for range was {
			next(t, s, p)
		}
		makes(t, s, p)
		if !slices.Equal(again, was) {
			t.Fatal(again, was)
		}
	})
}

// TestP233Copy: a copy is the same; what is done to the one is not done to the other, nor to a copy of it.
func TestP233Copy(t *testing.T) {
	for turn := range 2 {
		seed := 500
		each(t, func(s *sched.Sched, p *plain) {
			seed++
			d := s.Copy()
			e := d.Copy()
			if d == nil || d == s || e == d {
				t.Fatal(d, e)
			}
			same(t, d, p)
			one, other := s, d
			if turn == 1 {
				one, other = d, s
			}
			q, r := p.copied(), p.copied()
			for k := range 20 {
				do(t, one, q, seed, k)
				same(t, other, p)
			}
			for k := range 20 {
				do(t, other, r, seed+1000, k)
				same(t, one, q)
			}
			same(t, e, p)
		})
	}
}

// TestP233CopyMost: a copy makes as many as the one that it was made of may.
func TestP233CopyMost(t *testing.T) {
	for most := 1; most <= api.MaxTasks; most++ {
		s, p := made(t, most)
		makes(t, s, p)
		c := s.Copy()
		for range most + 1 {
			makes(t, c, p)
		}
		if s.Made() != 1 {
			t.Fatal(s.Made())
		}
	}
}

// TestP234LongRows: long rows of calls of no order, over each size.
func TestP234LongRows(t *testing.T) {
	for seed := range 128 {
		s, p := made(t, 1+seed%api.MaxTasks)
		for k := range 500 {
			do(t, s, p, 2000+seed, k)
		}
	}
}

// crew are those that were taken out, and those that were left, where each that is taken out comes to one end.
type crew struct {
	came, went    []int // who was made ready, and who was taken out, in turn
	working, left []int
	ended         int
}

// dropped answers l without the one at k, which it answers too.
func dropped(l []int, k uint64) (int, []int) {
	at := int(k % uint64(len(l)))
	return l[at], slices.Delete(slices.Clone(l), at, at+1)
}

// work lets one of the crew do something, as x tells it.
func (c *crew) work(t *testing.T, s *sched.Sched, x uint64) {
	t.Helper()
	var e api.Errno
	var task int
	switch kind := x % 8; {
	case kind == 0:
		if task, e = s.Make(); e == api.OK {
			c.came = append(c.came, task)
		}
		return
	case kind < 3 && len(c.left) > 0:
		task, c.left = dropped(c.left, x>>8)
		e = s.Push(task)
		c.came = append(c.came, task)
	case kind < 5 && len(c.working) > 0:
		task, c.working = dropped(c.working, x>>8)
		e = s.Back(task)
		c.came = append(c.came, task)
	case kind == 5 && len(c.working) > 0:
		task, c.working = dropped(c.working, x>>8)
		e = s.Leave()
		c.left = append(c.left, task)
	case kind == 6 && len(c.working) > 0:
		_, c.working = dropped(c.working, x>>8)
		e = s.End()
		c.ended++
	}
	if e != api.OK {
		t.Fatal(x, task, e)
	}
}

// TestP234InTurn: who is ready is taken out in the order in which it came, once; a stop tells that all that live were left, done that all ended.
func TestP234InTurn(t *testing.T) {
	found := [5]int{}
	for seed := range 200 {
		most := 1 + seed%api.MaxTasks
		s, _ := made(t, most)
		c := &crew{}
		for k := range 300 {
			x := sample.Mix(3000<<20 + seed<<12 + k)
			if k > 200 && x>>60 < 13 { // towards the end they end
				x = x&^7 | 5 + x>>30%2
			}
			c.work(t, s, x)
			if x>>50%2 > 0 {
				continue
			}
			task, what := s.Next()
			found[what]++
			switch what {
			case api.SnTask:
				c.went, c.working = append(c.went, task), append(c.working, task)
			case api.SnIdle:
				if len(c.working) == 0 {
					t.Fatal(c)
				}
			case api.SnStop:
				if len(c.left) == 0 || len(c.left)+c.ended != s.Made() {
					t.Fatal(c)
				}
			case api.SnDone:
				if c.ended != s.Made() {
					t.Fatal(c)
				}
			}
			if !slices.Equal(c.went, c.came[:len(c.went)]) || !slices.Equal(s.List(), c.came[len(c.went):]) {
				t.Fatal(c, s.List())
			}
			if s.Busy() != len(c.working) || s.Live() != s.Made()-c.ended {
				t.Fatal(c, s.Busy(), s.Live())
			}
		}
	}
	if found[api.SnTask] == 0 || found[api.SnIdle] == 0 || found[api.SnDone] == 0 || found[api.SnStop] == 0 {
		t.Error(found)
	}
}

// TestP234NotTwice: whatever is done, nobody is ready twice.
func TestP234NotTwice(t *testing.T) {
	for seed := range 40 {
		s, p := made(t, 1+seed%8)
		for k := range 300 {
			do(t, s, p, 4000+seed, k)
			l := s.List()
			slices.Sort(l)
			if len(slices.Compact(slices.Clone(l))) != len(l) {
				t.Fatal(l)
			}
		}
	}
}
