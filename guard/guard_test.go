package guard_test

import (
	"math"
	"slices"
	"testing"

	"tollbar/api"
	"tollbar/cell"
	"tollbar/guard"
	"tollbar/sample"
	"tollbar/ticket"
)

// base is where the locks of these tests lie: there are cells ahead of them, and behind them.
const base = 3

// place is cells, and n locks on them.
type place struct {
	*cell.Cells
	l *ticket.Locks
	n int
}

// laid answers n locks on cells of their own.
func laid(t *testing.T, n int) *place {
	t.Helper()
	c, e := cell.New(2*n + 2*base)
	if e != api.OK {
		t.Fatal(e)
	}
	l, e := ticket.New(c, base, n)
	if e != api.OK {
		t.Fatal(e)
	}
	return &place{c, l, n}
}

// from makes all locks of p free, their next tickets that of v.
func (p *place) from(v uint64) *place {
	for k := range p.n {
		p.Write(base+2*k, v)
		p.Write(base+2*k+1, v+1<<32) // a ticket is what a cell has, modulo 2^16
	}
	return p
}

// on answers a guard on the locks of p that wants those of l.
func (p *place) on(t *testing.T, l ...int) *guard.Guard {
	t.Helper()
	g, e := guard.New(p.l)
	if g == nil || e != api.OK {
		t.Fatal(g, e)
	}
	if e := g.Want(l...); e != api.OK {
		t.Fatalf("Want of %v is %v", l, e)
	}
	return g
}

// row answers all numbers of c, and how many accesses there were.
func row(c *cell.Cells) []uint64 {
	l := []uint64{c.Count()}
	for i := range c.Len() {
		l = append(l, c.Peek(i))
	}
	return l
}

// same fails, unless c has the numbers of want, and the accesses.
func same(t *testing.T, c *cell.Cells, want []uint64) {
	t.Helper()
	if got := row(c); !slices.Equal(got, want) {
		t.Fatalf("accesses and cells are %v, not %v", got, want)
	}
}

// steps steps g so many times.
func steps(t *testing.T, g *guard.Guard, n int) {
	t.Helper()
	for range n {
		if _, e := g.Step(); e != api.OK {
			t.Fatal(e)
		}
	}
}

// oracle is a guard by the chapter's words: what it wants, how many of these it has, its ticket, and the cells of all locks.
type oracle struct {
	want, have []int
	ticket     uint16
	drawn      bool
}

func (o *oracle) all() bool { return len(o.have) == len(o.want) }

func (o *oracle) next() (k int, ticket uint16, drawn bool) {
	if o.all() {
		return 0, 0, false
	}
	return o.want[len(o.have)], o.ticket, o.drawn
}

// step is Step, on cells whose accesses stand first.
func (o *oracle) step(cells []uint64) (bool, api.Errno) {
	if o.all() {
		return false, api.ErrNone
	}
	k := o.want[len(o.have)]
	at := 1 + base + 2*k
	cells[0]++
	if !o.drawn {
		o.ticket, o.drawn = uint16(cells[at]), true
		cells[at]++
	} else if uint16(cells[at+1]) == o.ticket {
		o.have = append(o.have, k)
		o.ticket, o.drawn = 0, false
	}
	return o.all(), api.OK
}

// give is Give, on cells whose accesses stand first.
func (o *oracle) give(cells []uint64) (int, api.Errno) {
	n := len(o.have)
	if n == 0 {
		return 0, api.ErrNone
	}
	if o.drawn {
		return 0, api.ErrHave
	}
	cells[0]++
	cells[1+base+2*o.have[n-1]+1]++
	o.have = o.have[:n-1]
	o.want = slices.Clone(o.have)
	return n - 1, api.OK
}

// wants is Want, of so many locks.
func (o *oracle) wants(n int, l []int) api.Errno {
	if len(o.have) > 0 || o.drawn {
		return api.ErrHave
	}
	for i, k := range l {
		if k < 0 || k >= n || i > 0 && k <= l[i-1] {
			return api.ErrArg
		}
	}
	o.want = slices.Clone(l)
	return api.OK
}

// tells fails, unless g tells what o does.
func (o *oracle) tells(t *testing.T, g *guard.Guard) {
	t.Helper()
	if g.All() != o.all() {
		t.Fatalf("All is %v: wants %v, has %v", g.All(), o.want, o.have)
	}
	if got := g.Held(); !slices.Equal(got, o.have) {
		t.Fatalf("Held is %v, not %v", got, o.have)
	}
	k, ticket, drawn := g.Next()
	if wk, wt, wd := o.next(); k != wk || ticket != wt || drawn != wd {
		t.Fatalf("Next is %d, %d, %v, not %d, %d, %v", k, ticket, drawn, wk, wt, wd)
	}
}

func TestExample(t *testing.T) {
	g := laid(t, 3).on(t, 0, 2)
	for k, want := range []bool{false, false, false, true} {
		if all, e := g.Step(); all != want || e != api.OK {
			t.Errorf("step %d: %v, %v", k, all, e)
		}
	}
	for _, want := range []int{1, 0} {
		if left, e := g.Give(); left != want || e != api.OK {
			t.Errorf("%d, %v, not %d", left, e, want)
		}
	}
	if left, e := g.Give(); left != 0 || e != api.ErrNone {
		t.Error(left, e)
	}
}

func TestP211NewOfNoLocks(t *testing.T) {
	if g, e := guard.New(nil); g != nil || e != api.ErrNil {
		t.Error(g, e)
	}
}

// TestP211New: a guard wants none, and is no access.
func TestP211New(t *testing.T) {
	for _, n := range []int{1, 2, 300} {
		p := laid(t, n).from(65535)
		p.l.Draw(n - 1)
		was := row(p.Cells)
		g, e := guard.New(p.l)
		if g == nil || e != api.OK {
			t.Fatal(g, e)
		}
		(&oracle{}).tells(t, g)
		if all, e := g.Step(); all || e != api.ErrNone {
			t.Error(all, e)
		}
		if left, e := g.Give(); left != 0 || e != api.ErrNone {
			t.Error(left, e)
		}
		same(t, p.Cells, was)
	}
}

// wrongRows are what nobody may want of 5 locks.
func wrongRows() [][]int {
	return [][]int{
		{-1}, {5}, {6}, {300}, {math.MinInt}, {math.MaxInt}, {1 << 32}, {1<<32 + 1}, {-1 << 32}, {1 << 16}, {256},
		{0, 0}, {4, 4}, {1, 0}, {4, 3}, {0, 2, 1}, {0, 1, 1}, {1, 2, 3, 4, 0}, {0, 1, 2, 3, 3}, {2, 1, 3}, {1, 1, 2}, {4, 0},
		{-1, 0}, {0, -1}, {-2, -1}, {0, 5}, {0, 1, 2, 3, 4, 5}, {5, 0}, {-1, 5}, {3, 1 << 40}, {0, 1<<32 + 1}, {5, 6}, {0, 4, math.MinInt},
	}
}

// TestP211Want: each row of up to three near numbers, and some more, is wanted just where the chapter's words say it.
func TestP211Want(t *testing.T) {
	rows := append(wrongRows(), nil, []int{}, []int{0, 1, 2, 3}, []int{0, 1, 2, 3, 4}, []int{1, 2, 3, 4})
	for a := -2; a < 8; a++ {
		rows = append(rows, []int{a})
		for b := -2; b < 8; b++ {
			rows = append(rows, []int{a, b})
			for c := -2; c < 8; c++ {
				rows = append(rows, []int{a, b, c})
			}
		}
	}
	for _, before := range [][]int{nil, {3}, {0, 2, 4}} {
		p := laid(t, 5)
		for _, l := range rows {
			g, o := p.on(t, before...), &oracle{want: before}
			was := slices.Clone(l)
			want := o.wants(5, l)
			if e := g.Want(l...); e != want {
				t.Errorf("Want of %v behind %v is %v, not %v", l, before, e, want)
			}
			if !slices.Equal(l, was) {
				t.Errorf("%v was changed to %v", was, l)
			}
			o.tells(t, g)
		}
		same(t, p.Cells, make([]uint64, 17))
	}
}

// TestP211WantManyLocks: as many as there can be, and one beyond.
func TestP211WantManyLocks(t *testing.T) {
	var l []int
	for k := range 300 {
		l = append(l, k)
	}
	p := laid(t, 300)
	g := p.on(t, l...)
	for k := range 600 {
		if all, e := g.Step(); all != (k == 599) || e != api.OK {
			t.Fatal(k, all, e)
		}
	}
	if got := g.Held(); !slices.Equal(got, l) {
		t.Error(got)
	}
	for k := 299; k >= 0; k-- {
		if left, e := g.Give(); left != k || e != api.OK {
			t.Fatal(left, e, k)
		}
	}
	if e := g.Want(append(l, 300)...); e != api.ErrArg {
		t.Error(e)
	}
	if e := g.Want(append(l, 299)...); e != api.ErrArg {
		t.Error(e)
	}
	if p.Count() != 900 {
		t.Error(p.Count())
	}
}

// TestP211WantAgain: who has none and drew none may want others, the last ones are wanted.
func TestP211WantAgain(t *testing.T) {
	p := laid(t, 4)
	g := p.on(t, 0, 1, 2)
	for _, l := range [][]int{{3}, nil, {0}, {1, 2}} {
		if e := g.Want(l...); e != api.OK {
			t.Fatal(e)
		}
		(&oracle{want: l}).tells(t, g)
	}
	steps(t, g, 4)
	if got := g.Held(); !slices.Equal(got, []int{1, 2}) {
		t.Error(got)
	}
	for range 2 {
		if _, e := g.Give(); e != api.OK {
			t.Fatal(e)
		}
	}
	if e := g.Want(0); e != api.OK {
		t.Error(e)
	}
	steps(t, g, 2)
	if got := g.Held(); !slices.Equal(got, []int{0}) {
		t.Error(got)
	}
}

// TestP211WantHave: with a ticket, or a lock, nothing else is wanted, whatever it is; that comes ahead of what is wrong with it.
func TestP211WantHave(t *testing.T) {
	for n := 1; n <= 6; n++ {
		p := laid(t, 5)
		g := p.on(t, 1, 2, 4)
		o, cells := &oracle{want: []int{1, 2, 4}}, row(p.Cells)
		steps(t, g, n)
		for range n {
			o.step(cells)
		}
		for _, l := range append(wrongRows(), nil, []int{0}, []int{1, 2, 4}, []int{4}) {
			if e := g.Want(l...); e != api.ErrHave {
				t.Errorf("behind %d steps Want of %v is %v", n, l, e)
			}
			o.tells(t, g)
		}
		same(t, p.Cells, cells)
	}
}

// TestP211WantKeepsNothing: what was handed in may be changed behind the call.
func TestP211WantKeepsNothing(t *testing.T) {
	l := []int{0, 1, 2}
	g := laid(t, 5).on(t, l...)
	l[0], l[1], l[2] = 4, 4, 4
	steps(t, g, 6)
	if got := g.Held(); !slices.Equal(got, []int{0, 1, 2}) {
		t.Error(got)
	}
}

func TestP211Nil(t *testing.T) {
	var g *guard.Guard
	for _, l := range append(wrongRows(), nil, []int{0}, []int{0, 1}) {
		if e := g.Want(l...); e != api.ErrNil {
			t.Errorf("Want of %v of none is %v", l, e)
		}
	}
}

// TestP212Step: a draw, then it asks till it is served; one access each, of the cells of that lock alone, around the greatest ticket too.
func TestP212Step(t *testing.T) {
	for _, v := range []uint64{0, 1, 255, 32767, 65534, 65535, 65536, 1<<32 - 1, 1<<48 + 65535, math.MaxUint64 - 1, math.MaxUint64} {
		p := laid(t, 4).from(v)
		p.l.Draw(1) // somebody else has this one
		g, o := p.on(t, 0, 1, 3), &oracle{want: []int{0, 1, 3}}
		cells := row(p.Cells)
		step := func() {
			t.Helper()
			want, we := o.step(cells)
			if all, e := g.Step(); all != want || e != we {
				t.Fatalf("from %d: Step is %v, %v, not %v, %v", v, all, e, want, we)
			}
			same(t, p.Cells, cells)
			o.tells(t, g)
		}
		for range 7 {
			step()
		}
		if k, _, drawn := g.Next(); k != 1 || !drawn || g.All() {
			t.Fatalf("from %d: goes for %d, drawn %v", v, k, drawn)
		}
		p.l.Give(1)
		cells = row(p.Cells)
		for range 3 {
			step()
		}
		if !g.All() {
			t.Errorf("from %d: has %v", v, g.Held())
		}
		step()
	}
}

// TestP212StepNone: who has all, or wants none, takes no step.
func TestP212StepNone(t *testing.T) {
	for _, l := range [][]int{nil, {0}, {4}, {1, 2, 3}} {
		p := laid(t, 5)
		g := p.on(t, l...)
		steps(t, g, 2*len(l))
		was := row(p.Cells)
		for range 3 {
			if all, e := g.Step(); all || e != api.ErrNone {
				t.Errorf("%v: %v, %v", l, all, e)
			}
		}
		same(t, p.Cells, was)
		if !slices.Equal(g.Held(), l) {
			t.Errorf("%v: has %v", l, g.Held())
		}
	}
}

// TestP212Give: behind each number of steps: none, a ticket, or the last one given back; then nothing more is wanted.
func TestP212Give(t *testing.T) {
	for _, v := range []uint64{0, 65535, math.MaxUint64} {
		for n := 0; n <= 8; n++ {
			p := laid(t, 5).from(v)
			l := []int{0, 1, 3, 4}
			g, o := p.on(t, l...), &oracle{want: l}
			cells := row(p.Cells)
			for range n {
				o.step(cells)
			}
			steps(t, g, n)
			for range 6 {
				want, we := o.give(cells)
				if left, e := g.Give(); left != want || e != we {
					t.Fatalf("behind %d steps: Give is %d, %v, not %d, %v", n, left, e, want, we)
				}
				same(t, p.Cells, cells)
				o.tells(t, g)
			}
		}
	}
}

// TestP212GiveErrors: with a ticket of the first one there is none to give back; with one of another there is, and it isn't given.
func TestP212GiveErrors(t *testing.T) {
	p := laid(t, 3)
	g := p.on(t, 1, 2)
	for n, want := range []api.Errno{api.ErrNone, api.ErrNone, api.OK, api.ErrHave, api.OK} {
		if want != api.OK {
			if left, e := g.Give(); left != 0 || e != want {
				t.Errorf("behind %d steps: %d, %v, not %v", n, left, e, want)
			}
		}
		if n < 4 {
			steps(t, g, 1)
		}
	}
	if left, e := g.Give(); left != 1 || e != api.OK {
		t.Error(left, e)
	}
}

// TestP212GiveStops: behind a lock that was given back the others are wanted no more, the first ones are had still.
func TestP212GiveStops(t *testing.T) {
	p := laid(t, 4)
	g := p.on(t, 0, 1, 2, 3)
	steps(t, g, 4)
	if left, e := g.Give(); left != 1 || e != api.OK {
		t.Fatal(left, e)
	}
	if all, e := g.Step(); all || e != api.ErrNone {
		t.Error(all, e)
	}
	if k, ticket, drawn := g.Next(); k != 0 || ticket != 0 || drawn || !g.All() {
		t.Error(k, ticket, drawn)
	}
	if e := g.Want(2); e != api.ErrHave {
		t.Error(e)
	}
	if !slices.Equal(g.Held(), []int{0}) || !p.l.Free(1) || p.l.Free(0) {
		t.Error(g.Held())
	}
}

// TestP212Nil: of none there is no step, and nothing to give.
func TestP212Nil(t *testing.T) {
	var g *guard.Guard
	if all, e := g.Step(); all || e != api.ErrNil {
		t.Error(all, e)
	}
	if left, e := g.Give(); left != 0 || e != api.ErrNil {
		t.Error(left, e)
	}
}

func TestP213Nil(t *testing.T) {
	var g *guard.Guard
	if g.All() || len(g.Held()) != 0 || g.Copy() != nil {
		t.Error(g.All(), g.Held(), g.Copy())
	}
	if k, ticket, drawn := g.Next(); k != 0 || ticket != 0 || drawn {
		t.Error(k, ticket, drawn)
	}
}

// TestP213Asks: what is asked is no access, and changes nothing; behind each of the calls it is what the chapter's words say.
func TestP213Asks(t *testing.T) {
	for seed := range 400 {
		at := func(k, salt, below int) int { return int(sample.Mix(seed<<12+8*k+salt) % uint64(below)) }
		p := laid(t, 4).from(sample.Mix(seed))
		g, o := p.on(t), &oracle{}
		for k := range 60 {
			cells := row(p.Cells)
			switch at(k, 0, 8) {
			case 0:
				var l []int
				for i := range 4 {
					if at(k, 1+i, 2) == 0 {
						l = append(l, i)
					}
				}
				if at(k, 5, 4) == 0 {
					l = append(l, at(k, 6, 6))
				}
				want := o.wants(4, l)
				if e := g.Want(l...); e != want {
					t.Fatalf("Want of %v is %v, not %v", l, e, want)
				}
			case 1:
				want, we := o.give(cells)
				if left, e := g.Give(); left != want || e != we {
					t.Fatalf("Give is %d, %v, not %d, %v", left, e, want, we)
				}
			case 2: // somebody else comes and goes
				p.l.Draw(at(k, 1, 4))
				cells = row(p.Cells)
			case 3:
				p.l.Give(at(k, 1, 4))
				cells = row(p.Cells)
			default:
				want, we := o.step(cells)
				if all, e := g.Step(); all != want || e != we {
					t.Fatalf("Step is %v, %v, not %v, %v", all, e, want, we)
				}
			}
			o.tells(t, g)
			o.tells(t, g.Copy())
			same(t, p.Cells, cells)
		}
	}
}

// TestP213HeldIsNew: what Held answers may be changed, and has no room that is the guard's own.
func TestP213HeldIsNew(t *testing.T) {
	p := laid(t, 5)
	g := p.on(t, 0, 1, 2)
	steps(t, g, 4)
	l := g.Held()
	_ = append(l, 4)
	l[0], l[1] = 4, 4
	if got := g.Held(); !slices.Equal(got, []int{0, 1}) {
		t.Error(got)
	}
	if k, _, _ := g.Next(); k != 2 {
		t.Error(k)
	}
	for range 2 {
		if _, e := g.Give(); e != api.OK {
			t.Fatal(e)
		}
	}
	if !p.l.Free(0) || !p.l.Free(1) {
		t.Error("another lock was given back")
	}
}

// TestP213NextTickets: a ticket of 0 that was drawn is told as such, and so is one that is not drawn.
func TestP213NextTickets(t *testing.T) {
	for _, v := range []uint64{0, 7, 65535, 65536, 1 << 32, math.MaxUint64} {
		g := laid(t, 2).from(v).on(t, 1)
		if k, ticket, drawn := g.Next(); k != 1 || ticket != 0 || drawn {
			t.Error(v, k, ticket, drawn)
		}
		steps(t, g, 1)
		if k, ticket, drawn := g.Next(); k != 1 || ticket != uint16(v) || !drawn {
			t.Error(v, k, ticket, drawn)
		}
		steps(t, g, 1)
		if k, ticket, drawn := g.Next(); k != 0 || ticket != 0 || drawn {
			t.Error(v, k, ticket, drawn)
		}
	}
}

// TestP213Copy: a copy is on the same locks, is as its guard is, and goes its own way from there.
func TestP213Copy(t *testing.T) {
	l := []int{0, 2, 3}
	for n := 0; n <= 6; n++ {
		for _, first := range []bool{true, false} {
			p := laid(t, 4).from(65534)
			one := p.on(t, l...)
			steps(t, one, n)
			as, cells := &oracle{want: l}, row(laid(t, 4).from(65534).Cells)
			for range n {
				as.step(cells)
			}
			other := one.Copy()
			same(t, p.Cells, cells)
			as.tells(t, other)
			if first {
				one, other = other, one
			}
			for range 6 - n {
				steps(t, one, 1)
				as.tells(t, other)
			}
			if !one.All() {
				t.Fatalf("behind %d steps and as many as are left: has %v", n, one.Held())
			}
			for range len(l) {
				one.Give()
				as.tells(t, other)
			}
			if e := one.Want(1); e != api.OK {
				t.Fatal(e)
			}
			steps(t, one, 2)
			as.tells(t, other)
			if p.l.Free(1) {
				t.Error("a copy is on other locks")
			}
		}
	}
}

// TestP213CopyWants: what one of two wants is not what the other one does.
func TestP213CopyWants(t *testing.T) {
	p := laid(t, 4)
	one := p.on(t, 0, 1)
	other := one.Copy()
	if e := one.Want(2, 3); e != api.OK {
		t.Fatal(e)
	}
	(&oracle{want: []int{0, 1}}).tells(t, other)
	(&oracle{want: []int{2, 3}}).tells(t, one)
	steps(t, other, 2)
	(&oracle{want: []int{2, 3}}).tells(t, one)
	(&oracle{want: []int{0, 1}, have: []int{0}}).tells(t, other)
}

// many is guards on the same locks, each of which takes all that it wants, gives it back, and begins again.
type many struct {
	*place
	all    []*guard.Guard
	wants  [][]int
	rounds []int
}

// crowd answers a guard for each of wants.
func crowd(t *testing.T, n int, wants ...[]int) *many {
	t.Helper()
	m := &many{place: laid(t, n).from(65535), wants: wants, rounds: make([]int, len(wants))}
	for _, l := range wants {
		m.all = append(m.all, m.on(t, l...))
	}
	return m
}

// step does one access by the guard w: it goes for what it wants, or gives back.
func (m *many) step(t *testing.T, w int) {
	t.Helper()
	g, was := m.all[w], m.Count()
	if !g.All() {
		steps(t, g, 1)
		if g.All() {
			m.rounds[w]++
		}
	} else if left, e := g.Give(); e != api.OK {
		t.Fatal(e)
	} else if left == 0 {
		if e := g.Want(m.wants[w]...); e != api.OK {
			t.Fatal(e)
		}
	}
	if m.Count() != was+1 {
		t.Fatalf("%d accesses in a step", m.Count()-was)
	}
	m.alone(t)
}

// alone fails where a lock is had by two.
func (m *many) alone(t *testing.T) {
	t.Helper()
	var by [8]*guard.Guard
	for w, g := range m.all {
		for _, k := range g.Held() {
			if by[k] != nil {
				t.Fatalf("lock %d is had by %d, and by another one", k, w)
			}
			by[k] = g
		}
	}
}

// crowds are what some guards want of 4 locks.
func crowds() [][][]int {
	return [][][]int{
		{{0}, {0}, {0}}, {{0, 1}, {0, 1}, {0, 1}}, {{0, 1}, {1, 2}, {0, 2}}, {{0, 1, 2, 3}, {1, 3}, {0, 2}},
		{{3}, {0, 3}, {1, 2, 3}}, {{0, 1}, {2, 3}, {0, 3}}, {{0, 1, 2}, {1, 2, 3}, {0, 1, 2, 3}},
	}
}

// TestP214AllShort: over all rows of 8 steps of three guards no lock is had by two, and from where they stand then each comes to have all, as all step by and by.
func TestP214AllShort(t *testing.T) {
	const long = 8
	rows := 1
	for range long {
		rows *= 3
	}
	for _, wants := range crowds()[1:4] {
		for n := range rows {
			m := crowd(t, 4, wants...)
			for k, left := 0, n; k < long; k, left = k+1, left/3 {
				m.step(t, left%3)
			}
			m.each(t, 25)
		}
	}
}

// each fails, unless each guard comes to have all once more within so many steps of each, in turn.
func (m *many) each(t *testing.T, most int) {
	t.Helper()
	was := slices.Clone(m.rounds)
	for k := range most * len(m.all) {
		m.step(t, k%len(m.all))
	}
	for w := range m.all {
		if m.rounds[w] == was[w] {
			t.Fatalf("%d of %v waits in vain", w, m.wants)
		}
	}
}

// TestP214LongRows: many guards that want some locks each, over long rows of no order, where now and then one is picked for long.
func TestP214LongRows(t *testing.T) {
	for seed := range 40 {
		at := func(k, salt, below int) int { return int(sample.Mix(seed<<20+4*k+salt) % uint64(below)) }
		n := 1 + at(0, 0, 7)
		var wants [][]int
		for w := range 1 + at(1, 0, 9) {
			l := []int{at(2+w, 0, n)}
			for k := l[0] + 1; k < n; k++ {
				if at(20+w, k%4, 2) == 0 {
					l = append(l, k)
				}
			}
			wants = append(wants, l)
		}
		m := crowd(t, n, wants...)
		for k := range 3000 {
			w := at(100+k, 0, len(wants))
			if k/50%5 == 4 {
				w = at(100+k/50, 1, len(wants))
			}
			m.step(t, w)
		}
		m.each(t, 300)
	}
}

// TestP214Crowds: each of some crowds, where they all step in turn: each has all within few steps, again and again.
func TestP214Crowds(t *testing.T) {
	for _, wants := range crowds() {
		m := crowd(t, 4, wants...)
		for range 50 {
			m.each(t, 60)
		}
	}
}
