package task_test

import (
	"math"
	"slices"
	"testing"

	"tollbar/api"
	"tollbar/frame"
	"tollbar/order"
	"tollbar/prog"
	"tollbar/sample"
	"tollbar/task"
)

// outside are numbers of no task, and of no site; many have the low bits of one.
func outside() []int {
	return []int{-1, -2, -31, -32, 32, 33, 63, 64, 255, 256, 1 << 16, 1 << 31, 1 << 32, 1<<32 + 1, 1<<32 + 5, -1 << 32, -1<<32 + 1, 1 << 62, math.MaxInt, math.MinInt, math.MinInt + 1}
}

// plainTask is a task as the chapter's words tell it.
type plainTask struct {
	state  uint8
	frame  api.Frame
	used   int
	slots  []int
	orders [][]int
}

// plain is a table as the chapter's words tell it.
type plain struct {
	p api.Program
	l []plainTask
}

func (p *plain) has(task int) bool { return task >= 0 && task < len(p.l) }

func (p *plain) both(task, site int) bool {
	return p.has(task) && site >= 0 && site < len(p.p.Sites)
}

// may tells whether the program has the code of f, and this instruction of it.
func (p *plain) may(f api.Frame) bool {
	return f.Code >= 0 && f.Code < len(p.p.Codes) && f.Pc >= 0 && f.Pc < len(p.p.Codes[f.Code])
}

func (p *plain) add(f api.Frame) (int, api.Errno) {
	if !p.may(f) {
		return 0, api.ErrArg
	}
	if len(p.l) > 31 {
		return 0, api.ErrFull
	}
	one := plainTask{state: 1, frame: f}
	for _, s := range p.p.Sites {
		var row []int
		for k := range s.Cases {
			row = append(row, k)
		}
		one.orders = append(one.orders, row)
	}
	p.l = append(p.l, one)
	return len(p.l) - 1, api.OK
}

func (p *plain) set(task int, x api.Place) api.Errno {
	if !p.has(task) {
		return api.ErrNone
	}
	if x.State != 1 && x.State != 2 && x.State != 3 || !p.may(x.Frame) {
		return api.ErrArg
	}
	p.l[task].state, p.l[task].frame = x.State, x.Frame
	return api.OK
}

func (p *plain) use(task int) (int, api.Errno) {
	if !p.has(task) {
		return 0, api.ErrNone
	}
	p.l[task].used++
	return p.l[task].used, api.OK
}

func (p *plain) fresh(task int) api.Errno {
	if !p.has(task) {
		return api.ErrNone
	}
	p.l[task].used = 0
	return api.OK
}

func (p *plain) hold(task, slot int) api.Errno {
	if !p.has(task) {
		return api.ErrNone
	}
	if slices.Contains(p.l[task].slots, slot) {
		return api.ErrHave
	}
	p.l[task].slots = append(p.l[task].slots, slot)
	return api.OK
}

func (p *plain) slots(task int) []int {
	if !p.has(task) {
		return nil
	}
	return p.l[task].slots
}

func (p *plain) loose(task int) []int {
	l := p.slots(task)
	if p.has(task) {
		p.l[task].slots = nil
	}
	return l
}

func (p *plain) order(task, site int) []int {
	if !p.both(task, site) {
		return nil
	}
	return p.l[task].orders[site]
}

func (p *plain) pick(task, site int, ready api.Set) (int, bool) {
	for _, k := range p.order(task, site) {
		if ready&(1<<k) != 0 {
			return k, true
		}
	}
	return 0, false
}

func (p *plain) took(task, site, k int) api.Errno {
	if !p.both(task, site) {
		return api.ErrNone
	}
	row := p.l[task].orders[site]
	if !slices.Contains(row, k) {
		return api.ErrArg
	}
	var l []int
	for _, v := range row {
		if v != k {
			l = append(l, v)
		}
	}
	p.l[task].orders[site] = append(l, k)
	return api.OK
}

func (p *plain) copied() *plain {
	q := &plain{p: p.p}
	for _, x := range p.l {
		x.slots = slices.Clone(x.slots)
		var rows [][]int
		for _, row := range x.orders {
			rows = append(rows, slices.Clone(row))
		}
		x.orders = rows
		q.l = append(q.l, x)
	}
	return q
}

// made answers a table of that program, and what it is by the chapter's words.
func made(t *testing.T, p api.Program) (*task.Table, *plain) {
	t.Helper()
	x, e := task.New(p)
	if x == nil || e != api.OK {
		t.Fatalf("New is %v, %v", x, e)
	}
	return x, &plain{p: prog.Copy(p)}
}

// same fails, unless x is as p tells it.
func same(t *testing.T, x *task.Table, p *plain) {
	t.Helper()
	if x.Len() != len(p.l) {
		t.Fatalf("Len is %d, not %d", x.Len(), len(p.l))
	}
	for n := -1; n <= len(p.l); n++ {
		want, is := api.Place{}, p.has(n)
		if is {
			want = api.Place{State: p.l[n].state, Frame: p.l[n].frame}
		}
		if y, has := x.Place(n); y != want || has != is {
			t.Fatalf("Place(%d) is %v, %v, not %v, %v", n, y, has, want, is)
		}
		if l := x.Slots(n); !slices.Equal(l, p.slots(n)) {
			t.Fatalf("Slots(%d) is %v, not %v", n, l, p.slots(n))
		}
		for site := -1; site <= len(p.p.Sites); site++ {
			if l := x.Order(n, site); !slices.Equal(l, p.order(n, site)) {
				t.Fatalf("Order(%d, %d) is %v, not %v", n, site, l, p.order(n, site))
			}
		}
	}
}

// used fails, unless each task used as many as p tells; it asks a copy, as what asks this changes it.
func used(t *testing.T, x *task.Table, p *plain) {
	t.Helper()
	c := x.Copy()
	for n := range p.l {
		if u, e := c.Use(n); u != p.l[n].used+1 || e != api.OK {
			t.Fatalf("Use(%d) is %d, %v, not %d", n, u, e, p.l[n].used+1)
		}
	}
}

func add(t *testing.T, x *task.Table, p *plain, f api.Frame) {
	t.Helper()
	n, e := x.Add(f)
	if wn, we := p.add(f); n != wn || e != we {
		t.Fatalf("Add(%v) is %d, %v, not %d, %v", f, n, e, wn, we)
	}
}

func set(t *testing.T, x *task.Table, p *plain, n int, y api.Place) {
	t.Helper()
	if e, we := x.Set(n, y), p.set(n, y); e != we {
		t.Fatalf("Set(%d, %v) is %v, not %v", n, y, e, we)
	}
}

func use(t *testing.T, x *task.Table, p *plain, n int) {
	t.Helper()
	u, e := x.Use(n)
	if wu, we := p.use(n); u != wu || e != we {
		t.Fatalf("Use(%d) is %d, %v, not %d, %v", n, u, e, wu, we)
	}
}

func fresh(t *testing.T, x *task.Table, p *plain, n int) {
	t.Helper()
	if e, we := x.Fresh(n), p.fresh(n); e != we {
		t.Fatalf("Fresh(%d) is %v, not %v", n, e, we)
	}
}

func hold(t *testing.T, x *task.Table, p *plain, n, slot int) {
	t.Helper()
	if e, we := x.Hold(n, slot), p.hold(n, slot); e != we {
		t.Fatalf("Hold(%d, %d) is %v, not %v", n, slot, e, we)
	}
}

func loose(t *testing.T, x *task.Table, p *plain, n int) {
	t.Helper()
	if l, want := x.Loose(n), p.loose(n); !slices.Equal(l, want) {
		t.Fatalf("Loose(%d) is %v, not %v", n, l, want)
	}
}

func took(t *testing.T, x *task.Table, p *plain, n, site, k int) {
	t.Helper()
	if e, we := x.Took(n, site, k), p.took(n, site, k); e != we {
		t.Fatalf("Took(%d, %d, %d) is %v, not %v", n, site, k, e, we)
	}
}

func pick(t *testing.T, x *task.Table, p *plain, n, site int, ready api.Set) {
	t.Helper()
	k, is := x.Pick(n, site, ready)
	if wk, wis := p.pick(n, site, ready); k != wk || is != wis {
		t.Fatalf("Pick(%d, %d, %b) is %d, %v, not %d, %v", n, site, ready, k, is, wk, wis)
	}
}

// near answers a number of one of n things, or, now and then, of none.
func near(x uint64, n int) int { return int(x%uint64(n+2)) - 1 }

// place answers one of p's, or, now and then, one that may not be.
func place(p api.Program, x uint64) api.Place {
	code := near(x, len(p.Codes))
	if x>>40%4 > 0 {
		code = int(x % uint64(len(p.Codes)))
	}
	pc := int(x>>8%48) - 1
	if code >= 0 && code < len(p.Codes) && x>>44%4 > 0 {
		pc = int(x >> 8 % uint64(len(p.Codes[code])))
	}
	f := api.Frame{Code: code, Pc: pc}
	for k := range f.R {
		f.R[k] = int64(sample.Mix(int(x>>20) + k))
	}
	return api.Place{State: uint8(x >> 16 % 5), Frame: f}
}

// do does one call to both, as seed and k tell it.
func do(t *testing.T, x *task.Table, p *plain, seed, k int) {
	t.Helper()
	m := sample.Mix(seed<<16 + k)
	n, site, y := near(m>>8, len(p.l)), near(m>>14, len(p.p.Sites)), place(p.p, sample.Mix(seed<<20+k))
	switch m % 9 {
	case 0:
		add(t, x, p, y.Frame)
	case 1:
		set(t, x, p, n, y)
	case 2, 3:
		use(t, x, p, n)
	case 4:
		fresh(t, x, p, n)
	case 5:
		hold(t, x, p, n, int(m>>20%9)-2)
	case 6:
		if m>>30%3 == 0 {
			loose(t, x, p, n)
		} else {
			hold(t, x, p, n, int(m>>20%1024))
		}
	case 7:
		took(t, x, p, n, site, near(m>>20, 6))
	case 8:
		pick(t, x, p, n, site, api.Set(m>>20))
	}
}

// each goes over tables of many programs, in states of all kinds.
func each(t *testing.T, does func(x *task.Table, p *plain)) {
	t.Helper()
	for seed := range 40 {
		x, p := made(t, sample.Made(seed))
		for k := range seed * 6 {
			do(t, x, p, seed, k)
		}
		does(x, p)
	}
	for _, y := range []api.Program{sample.Plain(), sample.Full(), sample.Crowd(1)} {
		x, p := made(t, y)
		for range 33 {
			add(t, x, p, api.Frame{})
		}
		for k := range 300 {
			do(t, x, p, 70, k)
		}
		does(x, p)
	}
}

// wide answers a program of sites of 1 to 6 cases.
func wide() api.Program {
	var l []api.Site
	for n := range api.MaxCases {
		l = append(l, sample.Site(slices.Repeat([]api.Case{sample.Receives(-1, 0, 0)}, n+1)...))
	}
	return sample.Program(nil, l, "end")
}

// TestExample: the chapter's own.
func TestExample(t *testing.T) {
	x, _ := made(t, sample.Program([]int{0}, []api.Site{sample.Site(sample.Receives(0, 0, 0), sample.Sends(0, 1))}, "end"))
	for range 2 {
		if _, e := x.Add(api.Frame{}); e != api.OK {
			t.Fatal(e)
		}
	}
	if k, is := x.Pick(0, 0, 3); k != 0 || !is {
		t.Error(k, is)
	}
	if e := x.Took(0, 0, 0); e != api.OK {
		t.Error(e)
	}
	if k, is := x.Pick(0, 0, 3); k != 1 || !is {
		t.Error(k, is)
	}
	if k, is := x.Pick(1, 0, 3); k != 0 || !is {
		t.Error(k, is)
	}
}

// TestP241New: of a program that may be there is a table without tasks, of another one none.
func TestP241New(t *testing.T) {
	for k, p := range sample.Broken() {
		if x, e := task.New(p); x != nil || e != api.ErrArg {
			t.Errorf("New of the broken program %d is %v, %v", k, x, e)
		}
	}
	for k := range 200 {
		x, p := made(t, sample.Made(k))
		same(t, x, p)
		if x.Len() != 0 {
			t.Fatal(x.Len())
		}
	}
	for _, y := range []api.Program{sample.Plain(), sample.Full(), sample.Crowd(3), wide(), sample.Program(nil, nil, "end")} {
		x, p := made(t, y)
		same(t, x, p)
	}
}

// TestP241NewAsCheck: what New refuses is what layer 11 refuses.
func TestP241NewAsCheck(t *testing.T) {
	bad := 0
	for k := range 400 {
		p := sample.Made(k)
		m := sample.Mix(9000 + k)
		code := p.Codes[m>>8%uint64(len(p.Codes))]
		x := &code[m>>16%uint64(len(code))]
		switch m % 4 {
		case 0:
			x.Op++
		case 1:
			x.A++
		case 2:
			x.K++
		case 3:
			x.Ch++
		}
		want := api.OK
		if _, _, e := prog.Check(p); e != api.OK {
			want = api.ErrArg
			bad++
		}
		if y, e := task.New(p); e != want || (y != nil) != (e == api.OK) {
			t.Fatal(k, y, e, want)
		}
	}
	if bad == 0 || bad == 400 {
		t.Error(bad)
	}
}

// TestP241NewKeepsNothing: what becomes of the program that was handed in changes nothing of the table; and that is as it was.
func TestP241NewKeepsNothing(t *testing.T) {
	for k := range 40 {
		y := sample.Made(k)
		was := prog.Copy(y)
		x, p := made(t, y)
		for n := range 10 {
			add(t, x, p, place(p.p, sample.Mix(n)).Frame)
		}
		for n := range 60 {
			do(t, x, p, k, n)
		}
		if !prog.Same(y, was) {
			t.Fatal(y, was)
		}
		for c := range y.Codes {
			y.Codes[c] = nil
		}
		for s := range y.Sites {
			y.Sites[s].Cases = nil
		}
		clear(y.Caps)
		same(t, x, p)
		for n := range 100 {
			do(t, x, p, k+50, n)
			same(t, x, p)
		}
	}
}

// TestP241Add: they are numbered from 0 on, run at that frame, used nothing, have no slots, and rising orders.
func TestP241Add(t *testing.T) {
	for _, y := range []api.Program{sample.Plain(), sample.Full(), wide()} {
		x, p := made(t, y)
		for n := range api.MaxTasks {
			f := api.Frame{Code: n % len(y.Codes), R: [api.Regs]int64{int64(n), -1, math.MaxInt64, math.MinInt64, 0, 0, 0, int64(-n)}}
			f.Pc = n % len(y.Codes[f.Code])
			if k, e := x.Add(f); k != n || e != api.OK {
				t.Fatal(k, e, n)
			}
			p.add(f)
			same(t, x, p)
			used(t, x, p)
			for k := range p.l { // each that is there was at work, so that a new one must be its own
				use(t, x, p, k)
				hold(t, x, p, k, n)
				took(t, x, p, k, n%len(y.Sites), 0)
			}
		}
	}
}

// TestP241AddWrong: a frame that may not be is told ahead of a table that is full.
func TestP241AddWrong(t *testing.T) {
	x, p := made(t, sample.Plain())
	wrong := []api.Frame{{Code: -1}, {Code: 4}, {Pc: -1}, {Pc: 5}, {Code: 1, Pc: 4}, {Code: 2, Pc: 3}, {Code: 3, Pc: 2}, {Code: 4, Pc: 5}}
	for _, k := range outside() {
		wrong = append(wrong, api.Frame{Code: k}, api.Frame{Pc: k}, api.Frame{Code: k, Pc: k})
	}
	refused := func() {
		t.Helper()
		for _, f := range wrong {
			if n, e := x.Add(f); n != 0 || e != api.ErrArg {
				t.Fatalf("Add(%v) is %d, %v", f, n, e)
			}
		}
		same(t, x, p)
	}
	refused()
	for range api.MaxTasks {
		add(t, x, p, api.Frame{Code: 2, Pc: 2})
		refused()
	}
	for code := range p.p.Codes {
		for pc := range p.p.Codes[code] {
			if n, e := x.Add(api.Frame{Code: code, Pc: pc}); n != 0 || e != api.ErrFull {
				t.Fatal(n, e)
			}
		}
	}
	same(t, x, p)
	for n := range api.MaxTasks { // none makes room, whatever became of it
		set(t, x, p, n, api.Place{State: api.TkOver})
	}
	add(t, x, p, api.Frame{})
	same(t, x, p)
}

// TestP241AddAsFrame: what Add refuses is what layer 13 refuses.
func TestP241AddAsFrame(t *testing.T) {
	for k := range 30 {
		y := sample.Made(k)
		x, _ := made(t, y)
		for n := range 40 {
			f := place(y, sample.Mix(k<<8+n)).Frame
			want := frame.Check(y, f)
			if want == api.OK && x.Len() == api.MaxTasks {
				want = api.ErrFull
			}
			if _, e := x.Add(f); e != want {
				t.Fatal(f, e, want)
			}
		}
	}
}

// TestP241Place: it is what was added, or set last; asked again it is the same.
func TestP241Place(t *testing.T) {
	x, p := made(t, sample.Plain())
	f := api.Frame{Code: 1, Pc: 3, R: [api.Regs]int64{1, 2, 3, 4, 5, 6, 7, math.MinInt64}}
	add(t, x, p, api.Frame{})
	add(t, x, p, f)
	for range 2 {
		if y, is := x.Place(1); !is || y != (api.Place{State: api.TkRun, Frame: f}) {
			t.Fatal(y, is)
		}
	}
	for state := uint8(api.TkRun); state <= api.TkOver; state++ {
		f.Pc--
		f.R[state] = -f.R[state]
		y := api.Place{State: state, Frame: f}
		if e := x.Set(1, y); e != api.OK {
			t.Fatal(e)
		}
		if z, is := x.Place(1); z != y || !is {
			t.Fatal(z, is)
		}
		if z, is := x.Place(0); z != (api.Place{State: api.TkRun}) || !is {
			t.Fatal(z, is)
		}
	}
	for _, n := range append(outside(), 2, 3, 31) {
		if y, is := x.Place(n); y != (api.Place{}) || is {
			t.Fatal(n, y, is)
		}
	}
}

// TestP241Set: each state, and each frame that may be, is taken; of others all stays.
func TestP241Set(t *testing.T) {
	x, p := made(t, sample.Plain())
	for range 3 {
		add(t, x, p, api.Frame{})
	}
	for state := range 256 {
		for code := -1; code < 6; code++ {
			for pc := -1; pc < 7; pc++ {
				set(t, x, p, (state+code+pc+3)%3, api.Place{State: uint8(state), Frame: api.Frame{Code: code, Pc: pc, R: [api.Regs]int64{int64(state), 7: int64(pc)}}})
			}
		}
		same(t, x, p)
	}
	for _, k := range outside() {
		for _, f := range []api.Frame{{Code: k}, {Pc: k}} {
			if e := x.Set(1, api.Place{State: 1, Frame: f}); e != api.ErrArg {
				t.Fatal(f, e)
			}
		}
	}
	same(t, x, p)
}

// TestP241SetNone: that it is not there is told ahead of what may not be.
func TestP241SetNone(t *testing.T) {
	x, p := made(t, sample.Plain())
	for n := range 3 {
		for _, k := range append(outside(), n, n+1, 31) {
			for _, y := range []api.Place{{State: api.TkWait}, {}, {State: 4}, {State: 1, Frame: api.Frame{Pc: 9}}} {
				if e := x.Set(k, y); e != api.ErrNone {
					t.Fatal(k, y, e)
				}
			}
		}
		same(t, x, p)
		add(t, x, p, api.Frame{})
	}
}

// TestP241SetKeeps: how a task is changes nothing of what it used, its slots, and its orders.
func TestP241SetKeeps(t *testing.T) {
	each(t, func(x *task.Table, p *plain) {
		for n := range p.l {
			for state := uint8(3); state > 0; state-- {
				set(t, x, p, n, api.Place{State: state})
			}
		}
		same(t, x, p)
		used(t, x, p)
	})
}

// TestP242Use: each call counts one more, of that task alone, till it is fresh.
func TestP242Use(t *testing.T) {
	x, p := made(t, sample.Plain())
	for range 3 {
		add(t, x, p, api.Frame{})
	}
	for n := range 1200 {
		if u, e := x.Use(1); u != n+1 || e != api.OK {
			t.Fatal(u, e, n)
		}
		p.use(1)
		if n%100 == 0 {
			use(t, x, p, 2)
			used(t, x, p)
		}
	}
	for range 2 {
		if e := x.Fresh(1); e != api.OK {
			t.Fatal(e)
		}
		p.fresh(1)
		used(t, x, p)
	}
	if u, e := x.Use(1); u != 1 || e != api.OK {
		t.Fatal(u, e)
	}
}

// TestP242UseKeeps: how many a task used changes nothing else of it, whatever its state.
func TestP242UseKeeps(t *testing.T) {
	each(t, func(x *task.Table, p *plain) {
		for n := range p.l {
			use(t, x, p, n)
			use(t, x, p, n)
			same(t, x, p)
			used(t, x, p)
			fresh(t, x, p, n)
			same(t, x, p)
			used(t, x, p)
		}
	})
}

// TestP242None: what is not there is told, and nothing is done.
func TestP242None(t *testing.T) {
	each(t, func(x *task.Table, p *plain) {
		for _, n := range append(outside(), len(p.l)) {
			if u, e := x.Use(n); u != 0 || e != api.ErrNone {
				t.Fatal(n, u, e)
			}
			if e := x.Fresh(n); e != api.ErrNone {
				t.Fatal(n, e)
			}
			for _, slot := range []int{0, 0, -1, 9} {
				if e := x.Hold(n, slot); e != api.ErrNone {
					t.Fatal(n, e)
				}
			}
			if a, b := x.Slots(n), x.Loose(n); len(a) != 0 || len(b) != 0 {
				t.Fatal(n, a, b)
			}
		}
		same(t, x, p)
		used(t, x, p)
	})
}

// TestP242Hold: slots are any numbers; they stand as they came, none twice.
func TestP242Hold(t *testing.T) {
	x, p := made(t, sample.Plain())
	for range 2 {
		add(t, x, p, api.Frame{})
	}
	row := append(outside(), 0, 1, 31, 7)
	for k, slot := range row {
		if e := x.Hold(0, slot); e != api.OK {
			t.Fatal(slot, e)
		}
		for _, again := range row[:k+1] {
			if e := x.Hold(0, again); e != api.ErrHave {
				t.Fatal(again, e)
			}
		}
		if l := x.Slots(0); !slices.Equal(l, row[:k+1]) {
			t.Fatal(l)
		}
		if l := x.Slots(1); len(l) != 0 {
			t.Fatal(l)
		}
	}
	for k := range 1024 { // another one may have the same ones, and as many as there can be
		if e := x.Hold(1, 1023-k); e != api.OK {
			t.Fatal(e)
		}
	}
	if l := x.Slots(1); len(l) != 1024 || l[0] != 1023 || l[1023] != 0 {
		t.Error(l)
	}
	if l := x.Slots(0); !slices.Equal(l, row) {
		t.Error(l)
	}
}

// TestP242Loose: it answers all, in order, and none is left: each can come again.
func TestP242Loose(t *testing.T) {
	x, p := made(t, sample.Plain())
	for range 3 {
		add(t, x, p, api.Frame{})
	}
	for turn := range 20 {
		for n := range 3 {
			for k := range turn {
				hold(t, x, p, n, (k*7+n)%31)
			}
		}
		n := turn % 3
		want := slices.Clone(p.slots(n))
		if l := x.Loose(n); !slices.Equal(l, want) {
			t.Fatal(l, want)
		}
		p.loose(n)
		same(t, x, p)
		if a, b := x.Loose(n), x.Slots(n); len(a) != 0 || len(b) != 0 {
			t.Fatal(a, b)
		}
		same(t, x, p)
	}
}

// TestP242SlotsKeep: slots that come and go change nothing else.
func TestP242SlotsKeep(t *testing.T) {
	each(t, func(x *task.Table, p *plain) {
		for n := range p.l {
			hold(t, x, p, n, n)
			hold(t, x, p, n, 5000)
			same(t, x, p)
			used(t, x, p)
			loose(t, x, p, n)
			same(t, x, p)
			used(t, x, p)
		}
	})
}

// TestP242ListsAreNew: a list that was answered is nobody's but the asker's.
func TestP242ListsAreNew(t *testing.T) {
	each(t, func(x *task.Table, p *plain) {
		for n := range p.l {
			hold(t, x, p, n, 7000)
			hold(t, x, p, n, 7001)
			for site := range p.p.Sites {
				l := x.Order(n, site)
				for k := range l {
					l[k] = -9
				}
				_ = append(l[:0], 9, 9)
			}
			l := x.Slots(n)
			was := slices.Clone(l)
			l[0], l[len(l)-1] = -8, -8
			_ = append(l[:1], 99)
			same(t, x, p)
			c := x.Copy()
			l = x.Loose(n)
			p.loose(n)
			for k := range 4 {
				hold(t, x, p, n, 8000+k)
			}
			if !slices.Equal(l, was) || !slices.Equal(c.Slots(n), was) {
				t.Fatal(l, c.Slots(n), was)
			}
			_ = append(l[:1], 99)
			l[0] = -7
			same(t, x, p)
			if !slices.Equal(c.Slots(n), was) {
				t.Fatal(c.Slots(n), was)
			}
		}
	})
}

// TestP243Pick: of each order, and each set, it is the first one that is in the set; nothing changes.
func TestP243Pick(t *testing.T) {
	x, p := made(t, wide())
	for range 2 {
		add(t, x, p, api.Frame{})
	}
	for turn := range 60 {
		for site := range p.p.Sites {
			for n := range 2 {
				for ready := range api.Set(128) {
					pick(t, x, p, n, site, ready)
					pick(t, x, p, n, site, ready|^api.Set(63))
				}
				took(t, x, p, n, site, int(sample.Mix(turn*2+n)%uint64(site+1)))
			}
		}
		same(t, x, p)
	}
}

// TestP243PickNone: none is picked where none is ready, nor where the task, or the site, is not there.
func TestP243PickNone(t *testing.T) {
	x, p := made(t, wide())
	for range 3 {
		add(t, x, p, api.Frame{})
	}
	for site := range p.p.Sites {
		for _, ready := range []api.Set{0, 1 << (site + 1), ^api.Set(1<<(site+1) - 1), 1 << 63} {
			if k, is := x.Pick(1, site, ready); k != 0 || is {
				t.Fatal(site, ready, k, is)
			}
		}
	}
	for _, n := range append(outside(), 3, 31) {
		for _, site := range append(outside(), 0, 5, 6) {
			if k, is := x.Pick(n, site, math.MaxUint64); k != 0 || is {
				t.Fatal(n, site, k, is)
			}
		}
	}
	for _, site := range append(outside(), 6, 11, 12) {
		if k, is := x.Pick(0, site, math.MaxUint64); k != 0 || is {
			t.Fatal(site, k, is)
		}
	}
	same(t, x, p)
}

// TestP243Took: each case of each site goes last; what is none is refused, and all stays.
func TestP243Took(t *testing.T) {
	x, p := made(t, wide())
	for range 2 {
		add(t, x, p, api.Frame{})
	}
	for turn := range 300 {
		m := sample.Mix(300 + turn)
		n, site, k := int(m%2), int(m>>8%6), near(m>>16, 6)
		want := api.OK
		if k < 0 || k > site {
			want = api.ErrArg
		}
		if e := x.Took(n, site, k); e != want {
			t.Fatal(n, site, k, e)
		}
		p.took(n, site, k)
		same(t, x, p)
	}
	for site := range 6 {
		for _, k := range append(outside(), site+1, 6) {
			if e := x.Took(0, site, k); e != api.ErrArg {
				t.Fatal(site, k, e)
			}
		}
	}
	same(t, x, p)
	used(t, x, p)
}

// TestP243TookNone: that the task, or the site, is not there is told ahead of a case that is none.
func TestP243TookNone(t *testing.T) {
	x, p := made(t, wide())
	if e := x.Took(0, 0, 0); e != api.ErrNone {
		t.Error(e)
	}
	for range 3 {
		add(t, x, p, api.Frame{})
	}
	for _, k := range append(outside(), 0, 5, 6) {
		for _, n := range append(outside(), 3, 31) {
			for _, site := range append(outside(), 0, 5, 6) {
				if e := x.Took(n, site, k); e != api.ErrNone {
					t.Fatal(n, site, k, e)
				}
			}
		}
		for _, site := range append(outside(), 6, 11, 12) {
			if e := x.Took(2, site, k); e != api.ErrNone {
				t.Fatal(site, k, e)
			}
		}
	}
	same(t, x, p)
}

// TestP243NoSites: a table of a program without sites has no orders.
func TestP243NoSites(t *testing.T) {
	x, p := made(t, sample.Program([]int{1}, nil, "end"))
	add(t, x, p, api.Frame{})
	for _, site := range append(outside(), 0) {
		if k, is := x.Pick(0, site, math.MaxUint64); k != 0 || is {
			t.Fatal(k, is)
		}
		if e := x.Took(0, site, 0); e != api.ErrNone {
			t.Fatal(e)
		}
		if l := x.Order(0, site); len(l) != 0 {
			t.Fatal(l)
		}
	}
}

// TestP243Default: a site's default is no case of its order.
func TestP243Default(t *testing.T) {
	x, p := made(t, sample.Program(nil, []api.Site{sample.Or(sample.Site(sample.Receives(-1, 0, 0), sample.Receives(-1, 0, 0)))}, "end"))
	add(t, x, p, api.Frame{})
	if l := x.Order(0, 0); !slices.Equal(l, []int{0, 1}) {
		t.Error(l)
	}
	if k, is := x.Pick(0, 0, 4); k != 0 || is {
		t.Error(k, is)
	}
	if e := x.Took(0, 0, 2); e != api.ErrArg {
		t.Error(e)
	}
}

// TestP243AsOrder: what a table answers of an order is what one of layer 9's own answers.
func TestP243AsOrder(t *testing.T) {
	x, p := made(t, wide())
	add(t, x, p, api.Frame{})
	for site := range p.p.Sites {
		o, _ := order.New(site + 1)
		for turn := range 200 {
			m := sample.Mix(site<<10 + turn)
			k, is := x.Pick(0, site, api.Set(m))
			if wk, wis := o.Pick(api.Set(m)); k != wk || is != wis {
				t.Fatal(site, m, k, is)
			}
			n := near(m>>40, 6)
			if e, we := x.Took(0, site, n), o.Took(n); e != we {
				t.Fatal(site, n, e, we)
			}
			if l := x.Order(0, site); !slices.Equal(l, o.List()) {
				t.Fatal(site, l, o.List())
			}
		}
	}
}

func TestP243Nil(t *testing.T) {
	var x *task.Table
	for _, n := range append(outside(), 0, 1, 31) {
		for _, f := range []api.Frame{{}, {Pc: n}} {
			if k, e := x.Add(f); k != 0 || e != api.ErrNil {
				t.Error(k, e)
			}
		}
		if y, is := x.Place(n); y != (api.Place{}) || is {
			t.Error(y, is)
		}
		if u, e := x.Use(n); u != 0 || e != api.ErrNil {
			t.Error(u, e)
		}
		if a, b, c, d := x.Set(n, api.Place{State: 1}), x.Fresh(n), x.Hold(n, 1), x.Took(n, 0, 0); a != api.ErrNil || b != api.ErrNil || c != api.ErrNil || d != api.ErrNil {
			t.Error(a, b, c, d)
		}
		if k, is := x.Pick(n, 0, 1); k != 0 || is {
			t.Error(k, is)
		}
		if len(x.Loose(n)) != 0 || len(x.Slots(n)) != 0 || len(x.Order(n, 0)) != 0 {
			t.Error(x.Loose(n), x.Slots(n), x.Order(n, 0))
		}
	}
	if x.Len() != 0 || x.Copy() != nil {
		t.Error(x.Len(), x.Copy())
	}
}

// TestP243Copy: a copy is the same; what is done to the one is not done to the other, nor to a copy of it.
func TestP243Copy(t *testing.T) {
	for turn := range 2 {
		seed := 500
		each(t, func(x *task.Table, p *plain) {
			seed++
			c := x.Copy()
			d := c.Copy()
			if c == nil || c == x || c == d {
				t.Fatal(c, d)
			}
			same(t, c, p)
			used(t, c, p)
			one, other := x, c
			if turn == 1 {
				one, other = c, x
			}
			q, r := p.copied(), p.copied()
			for k := range 60 {
				do(t, one, q, seed, k)
			}
			same(t, one, q)
			same(t, other, p)
			used(t, other, p)
			for k := range 60 {
				do(t, other, r, seed+1000, k)
			}
			same(t, other, r)
			same(t, one, q)
			used(t, one, q)
			same(t, d, p)
			used(t, d, p)
		})
	}
}

// TestP243CopyOrders: all orders of all tasks are copied, each at its own place.
func TestP243CopyOrders(t *testing.T) {
	x, p := made(t, sample.Full())
	for range api.MaxTasks {
		add(t, x, p, api.Frame{})
	}
	for n := range api.MaxTasks {
		for site := range api.MaxSites {
			for k := range 1 + (n*5+site)%9 {
				took(t, x, p, n, site, (k*5+n+site)%6)
			}
		}
	}
	c := x.Copy()
	same(t, c, p)
	q := p.copied()
	for n := range api.MaxTasks {
		for site := range api.MaxSites {
			took(t, c, q, n, site, c.Order(n, site)[site%6])
		}
		same(t, x, p)
		same(t, c, q)
	}
}

// TestP243CopyEmpty: a copy of a table without tasks may have as many as the other one, of the same program.
func TestP243CopyEmpty(t *testing.T) {
	x, p := made(t, sample.Plain())
	c := x.Copy()
	same(t, c, p)
	q := p.copied()
	for k := range 40 {
		add(t, c, q, api.Frame{Code: k % 5})
	}
	same(t, c, q)
	same(t, x, p)
}

// TestP244Apart: whatever is done to one task, all else of the others stays.
func TestP244Apart(t *testing.T) {
	each(t, func(x *task.Table, p *plain) {
		for n := range p.l {
			set(t, x, p, n, api.Place{State: api.TkWait})
			use(t, x, p, n)
			hold(t, x, p, n, 77)
			for site := range p.p.Sites {
				took(t, x, p, n, site, 0)
				same(t, x, p)
			}
			used(t, x, p)
			loose(t, x, p, n)
			fresh(t, x, p, n)
			same(t, x, p)
			used(t, x, p)
		}
	})
}

// TestP244LongRows: long rows of calls of no order, over many programs.
func TestP244LongRows(t *testing.T) {
	for seed := range 40 {
		x, p := made(t, sample.Made(seed+300))
		for k := range 600 {
			do(t, x, p, 2000+seed, k)
			if k%20 == 0 {
				same(t, x, p)
				used(t, x, p)
			}
		}
		same(t, x, p)
		used(t, x, p)
	}
}

// TestP244PassedOver: between two times that a case is taken, or ahead of the first one, it is passed over at most as often as its site has other cases; as often can be met.
func TestP244PassedOver(t *testing.T) {
	x, p := made(t, wide())
	for range 3 {
		add(t, x, p, api.Frame{})
	}
	var passed, most [3][6][6]int
	for turn := range 6000 {
		m := sample.Mix(turn)
		n, site := int(m%3), int(m>>4%6)
		ready := api.Set(m >> 10)
		if m>>8%4 > 0 {
			ready |= 1 << (turn / 600 % (site + 1)) // one that is ready nearly always
		}
		k, is := x.Pick(n, site, ready)
		if !is {
			continue
		}
		if e := x.Took(n, site, k); e != api.OK {
			t.Fatal(e)
		}
		for c := range site + 1 {
			if ready>>c&1 > 0 {
				passed[n][site][c]++
			}
		}
		passed[n][site][k] = 0
		for c, v := range passed[n][site] {
			if v > site {
				t.Fatal(n, site, c, v)
			}
			most[n][site][c] = max(most[n][site][c], v)
		}
	}
	for n := range 3 {
		for site := range 6 {
			if slices.Max(most[n][site][:]) != site {
				t.Error(n, site, most[n][site])
			}
		}
	}
}

// TestP244NotTwice: whatever is done, no task has a slot twice, and each order has each case of its site once.
func TestP244NotTwice(t *testing.T) {
	each(t, func(x *task.Table, p *plain) {
		for n := range x.Len() {
			l := x.Slots(n)
			slices.Sort(l)
			if len(slices.Compact(slices.Clone(l))) != len(l) {
				t.Fatal(l)
			}
			for site, s := range p.p.Sites {
				l := x.Order(n, site)
				slices.Sort(l)
				for k := range l {
					if l[k] != k || len(l) != len(s.Cases) {
						t.Fatal(l)
					}
				}
			}
		}
	})
}
