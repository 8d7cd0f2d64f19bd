package prog_test

import (
	"cmp"
	"math"
	"slices"
	"testing"

	"tollbar/api"
	"tollbar/ins"
	"tollbar/prog"
	"tollbar/sample"
)

var end = api.Ins{Op: api.OpEnd}

// fault is what Check answers: where, and what.
type fault struct {
	at, pc int
	e      api.Errno
}

// far are numbers that are no register, no channel, no capacity, site, code or instruction, and not NoChan; many have the low bits of one that is.
func far() []int {
	return []int{-2, -3, -8, -127, -128, -255, -256, 41, 64, 128, 255, 256, 257, 1 << 16, 1<<16 + 1, 1 << 31, 1<<32 - 1, 1 << 32, 1<<32 + 1, -1 << 32, -1<<32 + 1, 1 << 62,
		math.MaxInt, math.MaxInt - 1, math.MinInt, math.MinInt + 1}
}

// clone is another program, of other memory, made without the package.
func clone(p api.Program) api.Program {
	c := api.Program{Caps: append([]int(nil), p.Caps...)}
	for _, s := range p.Sites {
		c.Sites = append(c.Sites, api.Site{Cases: append([]api.Case(nil), s.Cases...), Default: s.Default})
	}
	for _, code := range p.Codes {
		c.Codes = append(c.Codes, append([]api.Ins(nil), code...))
	}
	return c
}

// alike is whether two programs are the same, by the document's words, without the package.
func alike(a, b api.Program) bool {
	return slices.Equal(a.Caps, b.Caps) &&
		slices.EqualFunc(a.Codes, b.Codes, slices.Equal) &&
		slices.EqualFunc(a.Sites, b.Sites, func(x, y api.Site) bool { return x.Default == y.Default && slices.Equal(x.Cases, y.Cases) })
}

// checked fails, unless Check answers what it must, and leaves the program as it was.
func checked(t *testing.T, p api.Program, want fault) {
	t.Helper()
	before := clone(p)
	at, pc, e := prog.Check(p)
	if got := (fault{at, pc, e}); got != want {
		t.Fatalf("Check(%+v) is %v, not %v", p, got, want)
	}
	if !alike(p, before) {
		t.Fatalf("Check has changed %+v to %+v", before, p)
	}
}

// faults are all that is wrong with a program, by the document's words: whatever has a fault of its own is told, in whichever order.
func faults(p api.Program) (l []fault) {
	tell := func(is bool, f fault) {
		if is {
			l = append(l, f)
		}
	}
	register := func(v int) bool { return v >= 0 && v <= 7 }
	tell(len(p.Codes) == 0 || len(p.Codes) > 8, fault{0, 0, 112})
	tell(len(p.Sites) > 12, fault{0, 0, 111})
	tell(len(p.Caps) > 6, fault{0, 0, 110})
	for k, code := range p.Codes {
		tell(len(code) > 0 && code[len(code)-1].Op != 10 && code[len(code)-1].Op != 3, fault{k, 0, 113})
		for pc, x := range code {
			tell(ins.Check(x, len(p.Caps), len(p.Sites), len(p.Codes), len(code)) != api.OK, fault{k, pc, 112})
		}
		tell(len(code) == 0 || len(code) > 40, fault{k, 0, 112})
	}
	for k, s := range p.Sites {
		tell(len(s.Cases) == 0 || len(s.Cases) > 6, fault{k, 0, 111})
		for _, x := range s.Cases {
			tell(x.Ch < -1 || x.Ch >= len(p.Caps) || !register(x.Val) || !register(x.Ok) || x.Send && x.Ok != 0, fault{k, 0, 111})
		}
	}
	for ch, n := range p.Caps {
		tell(n < 0 || n > 8, fault{ch, 0, 110})
	}
	return l
}

// judged is what Check must answer: the errors' numbers rise as the document lists them, so the least fault is the first one.
func judged(p api.Program) fault {
	l := faults(p)
	if len(l) == 0 {
		return fault{}
	}
	return slices.MinFunc(l, func(a, b fault) int {
		return cmp.Or(cmp.Compare(a.e, b.e), cmp.Compare(a.at, b.at), cmp.Compare(a.pc, b.pc))
	})
}

// with answers sample.Plain behind do.
func with(do func(p *api.Program)) api.Program {
	p := sample.Plain()
	do(&p)
	return p
}

// row is one thing so many times.
func row[T any](n int, x T) []T { return slices.Repeat([]T{x}, n) }

// code is one of n instructions, that ends.
func code(n int) []api.Ins { return append(row(n-1, api.Ins{Op: api.OpSet}), end) }

// site is one of n cases.
func site(n int) api.Site { return api.Site{Cases: row(n, api.Case{Ch: api.NoChan})} }

// made is a program that n alone tells, of few things, of which some may not be.
func made(n int) (p api.Program) {
	h, step := sample.Mix(n), 0
	next := func(below int) int {
		step++
		return int(sample.Mix(int(h>>8)+step) % uint64(below))
	}
	few := func(odd, usual, most int) int { // now and then beyond a limit
		if next(odd) == 0 {
			return most + next(2)
		}
		return next(usual)
	}
	slip := func(v int) int { // now and then another number
		if next(40) == 0 {
			return v + []int{-9, -1, 1, 9}[next(4)]
		}
		return v
	}
	for range few(12, 4, 6) {
		p.Caps = append(p.Caps, slip(next(9)))
	}
	for range few(20, 4, 12) {
		s := api.Site{Default: next(2) == 0}
		for range few(20, 2, 6) + 1 - next(30)/29 {
			x := api.Case{Send: next(2) == 0, Ch: slip(next(len(p.Caps)+1) - 1), Val: slip(next(8))}
			if !x.Send || next(40) == 0 {
				x.Ok = slip(next(8))
			}
			s.Cases = append(s.Cases, x)
		}
		p.Sites = append(p.Sites, s)
	}
	codes := few(12, 3, 7) + 1 - next(20)/19
	for range codes {
		p.Codes = append(p.Codes, some(few(30, 5, 39)+1-next(30)/29, len(p.Caps), len(p.Sites), codes, next, slip))
	}
	return p
}

// some is a code of n instructions, of a program of so many channels, sites and codes.
func some(n, chans, sites, codes int, next func(int) int, slip func(int) int) (c []api.Ins) {
	for pc := range n {
		x := api.Ins{Op: uint8(slip(next(10) + 1))}
		if pc == n-1 && next(20) > 0 {
			x.Op = []uint8{api.OpEnd, api.OpJump}[next(2)]
		}
		a, b, ch := slip(next(8)), slip(next(8)), slip(next(chans+1)-1)
		switch x.Op {
		case api.OpSet:
			x.A, x.K = a, int64(slip(b))
		case api.OpAdd:
			x.A, x.B = a, b
		case api.OpJump:
			x.K = int64(slip(next(n)))
		case api.OpZero:
			x.A, x.K = a, int64(slip(next(n)))
		case api.OpSend:
			x.A, x.Ch = a, ch
		case api.OpRecv:
			x.A, x.B, x.Ch = a, b, ch
		case api.OpClose:
			x.Ch = ch
		case api.OpSelect:
			if x = (api.Ins{Op: api.OpSet}); sites > 0 {
				x = api.Ins{Op: api.OpSelect, B: b, K: int64(slip(next(sites)))}
			}
		case api.OpSpawn:
			x.K = int64(slip(next(codes)))
		}
		c = append(c, x)
	}
	return c
}

// good goes over programs that may be.
func good(yield func(p api.Program) bool) {
	if !yield(sample.Plain()) || !yield(sample.Full()) || !yield(api.Program{Codes: [][]api.Ins{{end}}}) {
		return
	}
	for n := range 5000 {
		if p := made(n); len(faults(p)) == 0 && !yield(p) {
			return
		}
	}
}

// TestP111Example: the chapter's.
func TestP111Example(t *testing.T) {
	one := func(c ...api.Ins) api.Program { return api.Program{Codes: [][]api.Ins{c}} }
	checked(t, one(end), fault{})
	checked(t, one(api.Ins{Op: api.OpSet}), fault{0, 0, api.ErrFall})
	checked(t, one(), fault{0, 0, api.ErrCode})
	checked(t, one(api.Ins{Op: api.OpSend}, end), fault{0, 0, api.ErrCode})
	checked(t, sample.Plain(), fault{})
	checked(t, sample.Full(), fault{})
}

func TestP111Channels(t *testing.T) {
	for n, e := range map[int]api.Errno{0: 0, 1: 0, 5: 0, 6: 0, 7: api.ErrChan, 8: api.ErrChan, 300: api.ErrChan, 1 << 20: api.ErrChan} {
		checked(t, api.Program{Caps: make([]int, n), Codes: [][]api.Ins{{end}}}, fault{0, 0, e})
	}
	for v := -3; v <= 11; v++ {
		for n := 1; n <= 6; n++ {
			for ch := range n {
				p, want := api.Program{Caps: make([]int, n), Codes: [][]api.Ins{{end}}}, fault{ch, 0, api.ErrChan}
				if p.Caps[ch] = v; v >= 0 && v <= 8 {
					want = fault{}
				}
				checked(t, p, want)
			}
		}
	}
	for _, v := range far() {
		checked(t, with(func(p *api.Program) { p.Caps[2] = v }), fault{2, 0, api.ErrChan})
		checked(t, with(func(p *api.Program) { p.Caps[1], p.Caps[2] = v, -1 }), fault{1, 0, api.ErrChan})
		checked(t, with(func(p *api.Program) { p.Caps = append(p.Caps, 0, 0, 0, v) }), fault{0, 0, api.ErrChan}) // one too many, of which the last is wrong too
	}
}

func TestP111Sites(t *testing.T) {
	for n, e := range map[int]api.Errno{0: 0, 1: 0, 11: 0, 12: 0, 13: api.ErrSite, 14: api.ErrSite, 300: api.ErrSite, 1 << 18: api.ErrSite} {
		checked(t, api.Program{Sites: row(n, site(1)), Codes: [][]api.Ins{{end}}}, fault{0, 0, e})
		if n > 12 { // each wrong too: it is the number of them that is told
			checked(t, api.Program{Sites: row(n, site(0)), Codes: [][]api.Ins{{end}}}, fault{0, 0, e})
		}
	}
	for n := range 300 {
		for k := range 3 {
			p, want := api.Program{Sites: row(3, site(1)), Codes: [][]api.Ins{{end}}}, fault{k, 0, api.ErrSite}
			p.Sites[k] = site(n)
			p.Sites[k].Default = n%2 == 0 // a default is no case
			if n >= 1 && n <= 6 {
				want = fault{}
			}
			checked(t, p, want)
		}
	}
	checked(t, api.Program{Sites: []api.Site{site(6), site(1 << 20)}, Codes: [][]api.Ins{{end}}}, fault{1, 0, api.ErrSite})
	checked(t, api.Program{Sites: []api.Site{site(1), {Default: true}}, Codes: [][]api.Ins{{end}}}, fault{1, 0, api.ErrSite})
	checked(t, api.Program{Sites: []api.Site{site(1), {Cases: []api.Case{}}}, Codes: [][]api.Ins{{end}}}, fault{1, 0, api.ErrSite})
}

// TestP111Cases: each field of a case, at each place, at its edges and far outside.
func TestP111Cases(t *testing.T) {
	try := func(x api.Case, chans int, may bool) {
		t.Helper()
		for at := range 6 {
			s := site(6)
			s.Cases[at] = x
			p, want := api.Program{Caps: make([]int, chans), Sites: []api.Site{site(1), s, site(2)}, Codes: [][]api.Ins{{end}}}, fault{1, 0, api.ErrSite}
			if may {
				want = fault{}
			}
			checked(t, p, want)
		}
	}
	for _, send := range []bool{false, true} {
		for chans := range 7 {
			for ch := -4; ch <= 9; ch++ {
				try(api.Case{Send: send, Ch: ch}, chans, ch >= -1 && ch < chans)
			}
			for _, v := range far() {
				try(api.Case{Send: send, Ch: v}, chans, false)
			}
		}
		for v := -3; v <= 12; v++ {
			is := v >= 0 && v <= 7
			try(api.Case{Send: send, Val: v}, 1, is)
			try(api.Case{Send: send, Ch: api.NoChan, Val: v}, 1, is)
			try(api.Case{Send: send, Ok: v}, 1, is && (!send || v == 0))
			try(api.Case{Send: send, Ch: api.NoChan, Val: 7, Ok: v}, 1, is && (!send || v == 0))
		}
		for _, v := range far() {
			try(api.Case{Send: send, Val: v}, 1, false)
			try(api.Case{Send: send, Ok: v}, 1, false)
		}
	}
}

// TestP111Codes: how many there are, and how long they are.
func TestP111Codes(t *testing.T) {
	for n, e := range map[int]api.Errno{0: api.ErrCode, 1: 0, 2: 0, 7: 0, 8: 0, 9: api.ErrCode, 10: api.ErrCode, 300: api.ErrCode, 1 << 20: api.ErrCode} {
		checked(t, api.Program{Codes: row(n, []api.Ins{end})}, fault{0, 0, e})
		if n > 8 { // each wrong too: it is the number of them that is told
			checked(t, api.Program{Codes: row(n, []api.Ins{end, {}})}, fault{0, 0, e})
			checked(t, api.Program{Codes: row(n, []api.Ins{})}, fault{0, 0, e})
		}
	}
	for n := range 300 {
		for k := range 3 {
			p, want := api.Program{Codes: row(3, []api.Ins{end})}, fault{k, 0, api.ErrCode}
			if p.Codes[k] = nil; n > 0 {
				p.Codes[k] = code(n)
			}
			if n >= 1 && n <= 40 {
				want = fault{}
			}
			checked(t, p, want)
		}
	}
	checked(t, api.Program{Codes: [][]api.Ins{{end}, code(1 << 18)}}, fault{1, 0, api.ErrCode})
	checked(t, api.Program{Codes: [][]api.Ins{{end}, {}}}, fault{1, 0, api.ErrCode})
	long := code(41)
	long[5] = api.Ins{} // it is the length that is wrong of it first
	checked(t, api.Program{Codes: [][]api.Ins{{end}, long}}, fault{1, 0, api.ErrCode})
}

// TestP111Instructions: what each may name hangs on the program's own channels, sites and codes, and on the length of its own code; of several that may not be, the first is told.
func TestP111Instructions(t *testing.T) {
	for _, c := range []struct {
		x   api.Ins
		may bool
	}{
		{api.Ins{Op: api.OpSend, Ch: 2}, true}, {api.Ins{Op: api.OpSend, Ch: 3}, false}, {api.Ins{Op: api.OpSend, Ch: -1}, true}, {api.Ins{Op: api.OpSend, Ch: -2}, false},
		{api.Ins{Op: api.OpRecv, Ch: 2}, true}, {api.Ins{Op: api.OpRecv, Ch: 3}, false}, {api.Ins{Op: api.OpRecv, Ch: -1}, true}, {api.Ins{Op: api.OpRecv, Ch: -2}, false},
		{api.Ins{Op: api.OpClose, Ch: 2}, true}, {api.Ins{Op: api.OpClose, Ch: 3}, false}, {api.Ins{Op: api.OpClose, Ch: -1}, true}, {api.Ins{Op: api.OpClose, Ch: -2}, false},
		{api.Ins{Op: api.OpSelect, K: 0}, true}, {api.Ins{Op: api.OpSelect, K: 1}, true}, {api.Ins{Op: api.OpSelect, K: 2}, false}, {api.Ins{Op: api.OpSelect, K: -1}, false},
		{api.Ins{Op: api.OpSpawn, K: 0}, true}, {api.Ins{Op: api.OpSpawn, K: 3}, true}, {api.Ins{Op: api.OpSpawn, K: 4}, false}, {api.Ins{Op: api.OpSpawn, K: -1}, false},
		{api.Ins{Op: api.OpSet, A: 7}, true}, {api.Ins{Op: api.OpSet, A: 8}, false}, {api.Ins{Op: api.OpAdd, B: 8}, false}, {api.Ins{Op: api.OpEnd, K: 1}, false},
		{api.Ins{}, false}, {api.Ins{Op: 11}, false}, {api.Ins{Op: 255}, false}, {api.Ins{Op: api.OpSet, Ch: api.NoChan}, false},
	} {
		want := fault{}
		for k := range 4 {
			p := sample.Plain()
			for pc := range p.Codes[k] {
				if pc == len(p.Codes[k])-1 {
					continue
				}
				p := sample.Plain()
				if p.Codes[k][pc] = c.x; !c.may {
					want = fault{k, pc, api.ErrCode}
				}
				checked(t, p, want)
				p.Codes[k][len(p.Codes[k])-1] = api.Ins{Op: 99}
				if c.may {
					checked(t, p, fault{k, len(p.Codes[k]) - 1, api.ErrCode})
				} else {
					checked(t, p, want)
				}
			}
		}
	}
	for n := 1; n <= 40; n++ { // whither it goes: of its own code, not of another one, nor of one longer
		for to := -2; to <= 42; to++ {
			for _, op := range []uint8{api.OpJump, api.OpZero} {
				p := api.Program{Codes: [][]api.Ins{code(40), append(code(n), end)[1:], code(1)}}
				p.Codes[1][n-1] = api.Ins{Op: api.OpJump}
				at := 0
				if op == api.OpJump {
					at = n - 1
				} else if n == 1 {
					continue
				}
				p.Codes[1][at] = api.Ins{Op: op, K: int64(to)}
				want := fault{1, at, api.ErrCode}
				if to >= 0 && to < n {
					want = fault{}
				}
				checked(t, p, want)
			}
		}
	}
}

// TestP111Own: one channel, site or code fewer makes of what named the last one what may not be.
func TestP111Own(t *testing.T) {
	checked(t, with(func(p *api.Program) { p.Caps = p.Caps[:2] }), fault{0, 0, api.ErrSite})
	checked(t, with(func(p *api.Program) { p.Caps, p.Sites[0].Cases = p.Caps[:2], p.Sites[0].Cases[1:] }), fault{1, 0, api.ErrSite})
	checked(t, with(func(p *api.Program) {
		p.Caps, p.Sites[0].Cases, p.Sites[1].Cases[0].Ch = p.Caps[:2], p.Sites[0].Cases[1:], 0
	}), fault{1, 0, api.ErrCode})
	checked(t, with(func(p *api.Program) { p.Sites = p.Sites[:1] }), fault{0, 1, api.ErrCode})
	checked(t, with(func(p *api.Program) { p.Sites = nil }), fault{0, 1, api.ErrCode})
	checked(t, with(func(p *api.Program) { p.Codes = p.Codes[:3] }), fault{0, 0, api.ErrCode})
	checked(t, with(func(p *api.Program) { p.Codes = p.Codes[:1] }), fault{0, 0, api.ErrCode})
	checked(t, with(func(p *api.Program) { p.Codes[1] = p.Codes[1][:2] }), fault{1, 0, api.ErrFall})
	checked(t, with(func(p *api.Program) { p.Codes[1] = p.Codes[1][2:] }), fault{1, 1, api.ErrCode})
	checked(t, with(func(p *api.Program) { p.Codes[0] = p.Codes[0][:4] }), fault{0, 2, api.ErrCode})
}

// TestP111Falls: each kind as the last one; a place in the code is not told of it.
func TestP111Falls(t *testing.T) {
	for op := uint8(1); op <= 10; op++ {
		for k := range 4 {
			for n := 1; n <= 40; n++ {
				p := sample.Plain()
				p.Codes[k] = append(code(n)[:n-1], api.Ins{Op: op})
				want := fault{k, 0, api.ErrFall}
				if op == api.OpEnd || op == api.OpJump {
					want = fault{}
				}
				checked(t, p, want)
			}
		}
	}
	fall := api.Ins{Op: api.OpSet}
	checked(t, api.Program{Codes: [][]api.Ins{{end, end, fall}, {fall}}}, fault{0, 0, api.ErrFall})
	checked(t, api.Program{Codes: [][]api.Ins{{end}, {end, fall}, {fall}}}, fault{1, 0, api.ErrFall})
	checked(t, api.Program{Codes: [][]api.Ins{{fall}, {end}, nil}}, fault{2, 0, api.ErrCode}) // all codes are gone over ahead of their ends
	checked(t, api.Program{Codes: [][]api.Ins{{fall}, {end, {}, end}}}, fault{1, 1, api.ErrCode})
}

// TestP111First: of any two things that are wrong, wherever they are, the first one is told.
func TestP111First(t *testing.T) {
	breaks := []struct {
		do   func(p *api.Program)
		want fault
	}{
		{func(p *api.Program) { p.Caps[0] = -1 }, fault{0, 0, api.ErrChan}},
		{func(p *api.Program) { p.Caps[2] = 9 }, fault{2, 0, api.ErrChan}},
		{func(p *api.Program) { p.Sites[0].Cases[1].Val = 8 }, fault{0, 0, api.ErrSite}},
		{func(p *api.Program) { p.Sites[0].Cases[0].Ok = 1 }, fault{0, 0, api.ErrSite}},
		{func(p *api.Program) { p.Sites[1].Cases[0].Ch = 3 }, fault{1, 0, api.ErrSite}},
		{func(p *api.Program) { p.Sites[1].Cases = nil }, fault{1, 0, api.ErrSite}},
		{func(p *api.Program) { p.Sites[0] = site(7) }, fault{0, 0, api.ErrSite}},
		{func(p *api.Program) { p.Codes[0][2].A = 8 }, fault{0, 2, api.ErrCode}},
		{func(p *api.Program) { p.Codes[0][4].A = 1 }, fault{0, 4, api.ErrCode}},
		{func(p *api.Program) { p.Codes[1][2].Ch = 3 }, fault{1, 2, api.ErrCode}},
		{func(p *api.Program) { p.Codes[1][3].K = 4 }, fault{1, 3, api.ErrCode}},
		{func(p *api.Program) { p.Codes[2][2].Op = 0 }, fault{2, 2, api.ErrCode}},
		{func(p *api.Program) { p.Codes[0][4].Op = api.OpSet }, fault{0, 0, api.ErrFall}},
		{func(p *api.Program) { p.Codes[3][1].Op = api.OpSend }, fault{3, 0, api.ErrFall}},
		{func(p *api.Program) { p.Codes[3] = nil }, fault{3, 0, api.ErrCode}},
		{func(p *api.Program) { p.Codes[2] = code(41) }, fault{2, 0, api.ErrCode}},
		{func(p *api.Program) { p.Codes = append(p.Codes, row(5, code(1))...) }, fault{0, 0, api.ErrCode}},
		{func(p *api.Program) { p.Codes = nil }, fault{0, 0, api.ErrCode}},
		{func(p *api.Program) { p.Sites = append(p.Sites, row(11, site(1))...) }, fault{0, 0, api.ErrSite}},
		{func(p *api.Program) { p.Sites = row(13, site(0)) }, fault{0, 0, api.ErrSite}},
		{func(p *api.Program) { p.Caps = append(p.Caps, 0, 0, 0, 0) }, fault{0, 0, api.ErrChan}},
		{func(p *api.Program) { p.Caps = row(7, -1) }, fault{0, 0, api.ErrChan}},
	}
	for k, a := range breaks {
		p := with(a.do)
		checked(t, p, a.want)
		for _, b := range breaks[k+1:] {
			q := clone(p)
			b.do(&q)
			if judged(q).e == api.OK {
				t.Fatalf("%+v is taken for one that may be", q)
			}
			checked(t, q, judged(q))
			for _, c := range breaks[k+1:] { // what can't be done behind b is left out
				r := clone(q)
				func() {
					defer func() { recover() }()
					c.do(&r)
				}()
				checked(t, r, judged(r))
			}
		}
	}
}

// TestP111Made: many programs, of which each answer is met often.
func TestP111Made(t *testing.T) {
	met := map[fault]int{}
	for n := range 60000 {
		p := made(n)
		want := judged(p)
		met[fault{e: want.e}]++
		if want.pc > 0 {
			met[fault{pc: 1, e: want.e}]++
		}
		if want.at > 0 {
			met[fault{at: 1, e: want.e}]++
		}
		checked(t, p, want)
	}
	for _, f := range []fault{{}, {0, 0, 110}, {1, 0, 110}, {0, 0, 111}, {1, 0, 111}, {0, 0, 112}, {1, 0, 112}, {0, 1, 112}, {0, 0, 113}, {1, 0, 113}} {
		if met[f] < 200 {
			t.Errorf("%v is met %d times: %v", f, met[f], met)
		}
	}
}

func TestP111Nothing(t *testing.T) {
	checked(t, api.Program{}, fault{0, 0, api.ErrCode})
	checked(t, api.Program{Caps: []int{}, Codes: [][]api.Ins{}, Sites: []api.Site{}}, fault{0, 0, api.ErrCode})
	checked(t, api.Program{Codes: [][]api.Ins{nil}}, fault{0, 0, api.ErrCode})
	checked(t, api.Program{Sites: []api.Site{{}}}, fault{0, 0, api.ErrSite})
	checked(t, api.Program{Caps: []int{-1}}, fault{0, 0, api.ErrChan})
	checked(t, api.Program{Caps: []int{}, Sites: []api.Site{}, Codes: [][]api.Ins{{end}}}, fault{})
}

// variants are programs no two of which are the same: each differs from sample.Plain in one thing alone.
func variants() []api.Program {
	l := []api.Program{sample.Plain(), {}, {Codes: [][]api.Ins{nil}}, {Codes: [][]api.Ins{nil, nil}}, {Sites: []api.Site{{}}}, {Sites: []api.Site{{}, {}}}, {Sites: []api.Site{{Default: true}}},
		{Caps: []int{0}}, {Caps: []int{0, 0}}, {Codes: [][]api.Ins{{{}}}}, {Codes: [][]api.Ins{{{}, {}}}}, {Codes: [][]api.Ins{{{}}, nil}}, {Codes: [][]api.Ins{nil, {{}}}}, {Sites: []api.Site{{Cases: []api.Case{{}}}}}}
	add := func(do func(p *api.Program)) { l = append(l, with(do)) }
	add(func(p *api.Program) { p.Caps = nil })
	add(func(p *api.Program) { p.Sites = nil })
	add(func(p *api.Program) { p.Codes = nil })
	add(func(p *api.Program) { p.Caps[0], p.Caps[1] = p.Caps[1], p.Caps[0] })
	add(func(p *api.Program) { p.Sites[0], p.Sites[1] = p.Sites[1], p.Sites[0] })
	add(func(p *api.Program) { p.Codes[0], p.Codes[1] = p.Codes[1], p.Codes[0] })
	add(func(p *api.Program) { p.Codes[2], p.Codes[3] = p.Codes[2][:2], append([]api.Ins{end}, p.Codes[3]...) }) // the same instructions, parted elsewhere
	add(func(p *api.Program) {
		p.Sites[0].Cases, p.Sites[1].Cases = p.Sites[0].Cases[:2], append(p.Sites[0].Cases[2:], p.Sites[1].Cases...)
	})
	for _, v := range []int{1, -1, 1 << 8, 1 << 16, 1 << 32, math.MinInt} { // that much more, of each number alone
		for k := range sample.Plain().Caps {
			add(func(p *api.Program) { p.Caps[k] += v })
		}
		for k, s := range sample.Plain().Sites {
			for i := range s.Cases {
				add(func(p *api.Program) { p.Sites[k].Cases[i].Ch += v })
				add(func(p *api.Program) { p.Sites[k].Cases[i].Val += v })
				add(func(p *api.Program) { p.Sites[k].Cases[i].Ok += v })
			}
		}
		for k, c := range sample.Plain().Codes {
			for pc := range c {
				add(func(p *api.Program) { p.Codes[k][pc].A += v })
				add(func(p *api.Program) { p.Codes[k][pc].B += v })
				add(func(p *api.Program) { p.Codes[k][pc].Ch += v })
				add(func(p *api.Program) { p.Codes[k][pc].K += int64(v) })
			}
		}
	}
	for k, s := range sample.Plain().Sites {
		add(func(p *api.Program) { p.Sites[k].Default = !p.Sites[k].Default })
		add(func(p *api.Program) { p.Sites = slices.Delete(p.Sites, k, k+1) })
		add(func(p *api.Program) { p.Sites = slices.Insert(p.Sites, k, api.Site{}) })
		for i := range s.Cases {
			add(func(p *api.Program) { p.Sites[k].Cases[i].Send = !p.Sites[k].Cases[i].Send })
			add(func(p *api.Program) { p.Sites[k].Cases = slices.Delete(p.Sites[k].Cases, i, i+1) })
			add(func(p *api.Program) { p.Sites[k].Cases = slices.Insert(p.Sites[k].Cases, i, api.Case{}) })
		}
		add(func(p *api.Program) { p.Sites[k].Cases = append(p.Sites[k].Cases, api.Case{}) })
	}
	for k, c := range sample.Plain().Codes {
		add(func(p *api.Program) { p.Codes = slices.Delete(p.Codes, k, k+1) })
		add(func(p *api.Program) { p.Codes = slices.Insert(p.Codes, k, nil) })
		for pc := range c {
			add(func(p *api.Program) { p.Codes[k][pc].Op += 128 })
			add(func(p *api.Program) { p.Codes[k] = slices.Delete(p.Codes[k], pc, pc+1) })
			add(func(p *api.Program) { p.Codes[k] = slices.Insert(p.Codes[k], pc, api.Ins{}) })
		}
		add(func(p *api.Program) { p.Codes[k] = append(p.Codes[k], api.Ins{}) })
	}
	for k := range sample.Plain().Caps {
		add(func(p *api.Program) { p.Caps = slices.Delete(p.Caps, k, k+1) })
		add(func(p *api.Program) { p.Caps = slices.Insert(p.Caps, k, 7) })
	}
	add(func(p *api.Program) { p.Caps = append(p.Caps, 0) })
	add(func(p *api.Program) { p.Sites = append(p.Sites, api.Site{}) })
	add(func(p *api.Program) { p.Codes = append(p.Codes, nil) })
	return l
}

// held fails, unless Same answers it of both, whichever stands first.
func held(t *testing.T, a, b api.Program, want bool) {
	t.Helper()
	if is := prog.Same(a, b); is != want {
		t.Fatalf("Same(%+v, %+v) is %v", a, b, is)
	}
	if is := prog.Same(b, a); is != want {
		t.Fatalf("Same(%+v, %+v) is %v", b, a, is)
	}
}

// TestP112Same: of all variants each is the same as itself, of whatever memory, and as no other one.
func TestP112Same(t *testing.T) {
	l := variants()
	for k, a := range l {
		held(t, a, a, true)
		held(t, a, clone(a), true)
		for _, b := range l[k+1:] {
			held(t, a, b, false)
		}
	}
	for k, a := range variants() {
		if !alike(a, l[k]) {
			t.Fatalf("Same has changed %+v to %+v", a, l[k])
		}
	}
	held(t, sample.Full(), sample.Full(), true)
	held(t, sample.Full(), sample.Plain(), false)
}

// TestP112SameOfNone: a row that is nil, and one without elements, on each level; a row of one row without elements is another one.
func TestP112SameOfNone(t *testing.T) {
	held(t, api.Program{}, api.Program{Caps: []int{}, Codes: [][]api.Ins{}, Sites: []api.Site{}}, true)
	held(t, api.Program{Codes: [][]api.Ins{nil, {}}}, api.Program{Codes: [][]api.Ins{{}, nil}}, true)
	held(t, api.Program{Sites: []api.Site{{}, {Cases: []api.Case{}}}}, api.Program{Sites: []api.Site{{Cases: []api.Case{}}, {}}}, true)
	held(t, api.Program{}, api.Program{Codes: [][]api.Ins{{}}}, false)
	held(t, api.Program{}, api.Program{Sites: []api.Site{{Cases: []api.Case{}}}}, false)
	spare := make([]int, 9)
	held(t, api.Program{Caps: spare[:3]}, api.Program{Caps: spare[4:7:7]}, true) // it hangs on no capacity
}

// TestP112SameWhatever: programs that may not be are held against each other likewise.
func TestP112SameWhatever(t *testing.T) {
	for n := range 3000 {
		a, b := made(n), made(n+1)
		held(t, a, clone(a), true)
		held(t, a, b, alike(a, b))
	}
	long := api.Program{Codes: [][]api.Ins{code(1 << 18)}}
	other := clone(long)
	held(t, long, other, true)
	other.Codes[0][1<<18-1].K = 1
	held(t, long, other, false)
}

// places are the addresses of all that a program has, as far as its lists' memory goes.
func places(p api.Program) (l []any) {
	for k := range p.Caps[:cap(p.Caps)] {
		l = append(l, &p.Caps[:cap(p.Caps)][k])
	}
	for k := range p.Sites[:cap(p.Sites)] {
		l = append(l, &p.Sites[:cap(p.Sites)][k])
	}
	for k := range p.Codes[:cap(p.Codes)] {
		l = append(l, &p.Codes[:cap(p.Codes)][k])
	}
	for _, s := range p.Sites {
		for i := range s.Cases[:cap(s.Cases)] {
			l = append(l, &s.Cases[:cap(s.Cases)][i])
		}
	}
	for _, c := range p.Codes {
		for pc := range c[:cap(c)] {
			l = append(l, &c[:cap(c)][pc])
		}
	}
	return l
}

// copied answers the copy of p; it fails, unless that is the same, and none of its memory is p's, or in two of its lists.
func copied(t *testing.T, p api.Program) api.Program {
	t.Helper()
	before := clone(p)
	c := prog.Copy(p)
	if !alike(c, before) || !alike(p, before) {
		t.Fatalf("Copy(%+v) is %+v, and leaves %+v", before, c, p)
	}
	held(t, c, p, true)
	own := map[any]bool{}
	for _, x := range places(p) {
		own[x] = true
	}
	for _, x := range places(c) {
		if own[x] {
			t.Fatalf("of %+v %T %p is shared", p, x, x)
		}
		own[x] = true
	}
	return c
}

func TestP112Copy(t *testing.T) {
	for _, p := range variants() {
		copied(t, p)
	}
	for n := range 2000 {
		copied(t, made(n))
	}
	copied(t, sample.Full())
	copied(t, api.Program{Caps: []int{}, Codes: [][]api.Ins{nil, {}}, Sites: []api.Site{{}, {Cases: []api.Case{}}}})
}

// TestP112CopyShared: what shares memory, or has room to spare, is copied to what does not share.
func TestP112CopyShared(t *testing.T) {
	p := sample.Plain()
	p.Codes[1], p.Codes[2] = p.Codes[0], p.Codes[0][:2]
	p.Sites[1].Cases = p.Sites[0].Cases
	p.Caps = p.Caps[:1]
	c := copied(t, p)
	c.Codes[0][0], c.Sites[0].Cases[0].Val = end, 3
	if c.Codes[1][0] == end || c.Codes[2][0] == end || c.Sites[1].Cases[0].Val == 3 || p.Codes[0][0] == end {
		t.Errorf("%+v", c)
	}
	c.Caps = append(c.Caps, 5)
	if p.Caps[:2][1] != 8 {
		t.Errorf("%d", p.Caps[:2])
	}
	c.Codes[2] = append(c.Codes[2], end, end)
	if p.Codes[0][2] == end {
		t.Errorf("%+v", p.Codes[0])
	}
}

// TestP112CopyWritten: what is written in one, on each level, is not read in the other.
func TestP112CopyWritten(t *testing.T) {
	for k, do := range []func(p *api.Program){
		func(p *api.Program) { p.Caps[1] = 5 },
		func(p *api.Program) { p.Caps = append(p.Caps, 5) },
		func(p *api.Program) { p.Sites[1] = api.Site{} },
		func(p *api.Program) { p.Sites[1].Default = true },
		func(p *api.Program) { p.Sites[0].Cases[2].Val = 5 },
		func(p *api.Program) { p.Sites[0].Cases = append(p.Sites[0].Cases, api.Case{}) },
		func(p *api.Program) { p.Sites = append(p.Sites, api.Site{}) },
		func(p *api.Program) { p.Codes[3] = nil },
		func(p *api.Program) { p.Codes[1][2] = end },
		func(p *api.Program) { p.Codes[0][0].K = 0 },
		func(p *api.Program) { p.Codes[2] = append(p.Codes[2], end) },
		func(p *api.Program) { p.Codes = append(p.Codes, nil) },
	} {
		p := sample.Plain()
		c := prog.Copy(p)
		do(&p)
		if !alike(c, sample.Plain()) || alike(p, sample.Plain()) {
			t.Errorf("%d: %+v", k, c)
		}
		p = sample.Plain()
		c = prog.Copy(p)
		do(&c)
		if !alike(p, sample.Plain()) || alike(c, sample.Plain()) {
			t.Errorf("%d: %+v", k, p)
		}
	}
}

// found fails, unless At answers that.
func found(t *testing.T, p api.Program, code, pc int, want api.Ins, is bool) {
	t.Helper()
	if x, got := prog.At(p, code, pc); x != want || got != is {
		t.Fatalf("of %+v: At(%d, %d) is %+v, %v", p, code, pc, x, got)
	}
}

func TestP112At(t *testing.T) {
	programs := append(variants(), sample.Full(), api.Program{Codes: [][]api.Ins{{}, {end}, nil, {{Op: 99, A: -5, K: 3}, {}}}}, api.Program{Codes: row(20, code(50))})
	for _, p := range programs {
		for k := -3; k <= len(p.Codes)+3; k++ {
			for pc := -3; pc <= 53; pc++ {
				if k >= 0 && k < len(p.Codes) && pc >= 0 && pc < len(p.Codes[k]) {
					found(t, p, k, pc, p.Codes[k][pc], true)
				} else {
					found(t, p, k, pc, api.Ins{}, false)
				}
			}
		}
		for _, v := range far() {
			found(t, p, v, 0, api.Ins{}, false)
			found(t, p, v, v, api.Ins{}, false)
			if v < 0 || v > 50 {
				found(t, p, 0, v, api.Ins{}, false)
			}
		}
	}
	found(t, sample.Plain(), 0, 0, api.Ins{Op: api.OpSpawn, K: 3}, true)
	found(t, sample.Plain(), 0, 4, end, true)
	found(t, sample.Plain(), 3, 1, end, true)
	found(t, sample.Plain(), 3, 2, api.Ins{}, false)
	p := sample.Plain()
	p.Codes[3] = p.Codes[3][:1] // what stands behind a code's end is none of it
	found(t, p, 3, 1, api.Ins{}, false)
	p.Codes = p.Codes[:3]
	found(t, p, 3, 0, api.Ins{}, false)
}

// used fails, unless Uses answers that.
func used(t *testing.T, p api.Program, ch, want int) {
	t.Helper()
	if n := prog.Uses(p, ch); n != want {
		t.Fatalf("of %+v: Uses(%d) is %d, not %d", p, ch, n, want)
	}
}

// uses counts likewise, by the document's words, without the package.
func uses(p api.Program) map[int]int {
	l := map[int]int{}
	for _, s := range p.Sites {
		for _, x := range s.Cases {
			l[x.Ch]++
		}
	}
	for _, x := range slices.Concat(p.Codes...) {
		switch x.Op {
		case 5, 6, 7: // send, recv, close
			l[x.Ch]++
		}
	}
	return l
}

func TestP112Uses(t *testing.T) {
	for ch, n := range map[int]int{0: 1, 1: 1, 2: 3, api.NoChan: 2, 3: 0, -2: 0, 6: 0} {
		used(t, sample.Plain(), ch, n)
	}
	for ch, n := range map[int]int{0: 0, 4: 0, 5: 12*6 + 8*35, api.NoChan: 0, 6: 0} {
		used(t, sample.Full(), ch, n)
	}
	for _, v := range far() {
		used(t, sample.Plain(), v, 0)
		used(t, sample.Full(), v, 0)
		used(t, api.Program{}, v, 0)
	}
	for op := range 256 { // what does not name a channel has a 0 there, that is not the channel 0
		for of := -1; of <= 5; of++ {
			p := api.Program{Caps: make([]int, 6), Codes: [][]api.Ins{{end}, {end, {Op: uint8(op), Ch: of}}}}
			for ch := -2; ch <= 7; ch++ {
				want := 0
				if ch == of && (op == 5 || op == 6 || op == 7) {
					want = 1
				}
				used(t, p, ch, want)
			}
		}
	}
	for of := -1; of <= 5; of++ {
		for k := range 2 {
			p := api.Program{Caps: make([]int, 6), Sites: []api.Site{{Cases: []api.Case{{Ch: of, Send: k == 0}}, Default: k == 1}}}
			for ch := -2; ch <= 7; ch++ {
				used(t, p, ch, map[bool]int{true: 1}[ch == of])
			}
		}
	}
	for ch := -2; ch <= 7; ch++ {
		used(t, api.Program{}, ch, 0)
		used(t, api.Program{Caps: make([]int, 6), Codes: [][]api.Ins{nil, {}, {end}}, Sites: []api.Site{{}}}, ch, 0)
	}
}

func TestP112UsesAll(t *testing.T) {
	for n := range 5000 {
		p := made(n)
		l := uses(p)
		before := clone(p)
		for ch := -12; ch <= 16; ch++ {
			used(t, p, ch, l[ch])
		}
		if !alike(p, before) {
			t.Fatalf("Uses has changed %+v to %+v", before, p)
		}
	}
	n := 1 << 18
	used(t, api.Program{Codes: [][]api.Ins{row(n, api.Ins{Op: api.OpClose, Ch: 3}), row(n, api.Ins{Op: api.OpSend, Ch: 3})}}, 3, 2*n)
}

// TestP113Next: in all programs that may be each instruction's next ones are there, and its first one is.
func TestP113Next(t *testing.T) {
	n := 0
	for p := range good {
		checked(t, p, fault{})
		for k, c := range p.Codes {
			for pc := range c {
				x, is := prog.At(p, k, pc)
				next := []int{pc + 1}
				switch x.Op {
				case api.OpEnd:
					next = nil
				case api.OpJump:
					next = []int{int(x.K)}
				case api.OpZero:
					next = append(next, int(x.K))
				}
				for _, to := range next {
					_, there := prog.At(p, k, to)
					is = is && there
				}
				if n++; !is {
					t.Fatalf("of %+v: from %d of %d to %d", p, pc, k, next)
				}
			}
			if _, is := prog.At(p, k, 0); !is {
				t.Fatalf("of %+v: %d has no instruction", p, k)
			}
		}
	}
	if n < 5000 {
		t.Errorf("%d instructions alone", n)
	}
}

// TestP113NextIsNeeded: what Check refuses of a code's end, or of whither it goes, would go where nothing is.
func TestP113NextIsNeeded(t *testing.T) {
	for n := range 20000 {
		p := made(n)
		at, _, e := prog.Check(p)
		if e != api.ErrFall {
			continue
		}
		last := len(p.Codes[at]) - 1
		if x, is := prog.At(p, at, last); !is || x.Op == api.OpEnd || x.Op == api.OpJump {
			t.Fatalf("of %+v: %+v", p, x)
		}
		found(t, p, at, last+1, api.Ins{}, false)
	}
}

// grown answers p with one thing more, each that may be, as far as there is room for it.
func grown(p api.Program) (l []api.Program) {
	add := func(room bool, do func(q *api.Program)) {
		if room {
			q := clone(p)
			do(&q)
			l = append(l, q)
		}
	}
	for n := range 9 {
		add(len(p.Caps) < 6, func(q *api.Program) { q.Caps = append(q.Caps, n) })
	}
	for n := 1; n <= 6; n++ {
		for ch := -1; ch < len(p.Caps); ch++ {
			s := api.Site{Cases: row(n, api.Case{Ch: ch, Val: n, Ok: n}), Default: n%2 == 0}
			s.Cases[0] = api.Case{Send: true, Ch: ch, Val: 7}
			add(len(p.Sites) < 12, func(q *api.Program) { q.Sites = append(q.Sites, s) })
		}
	}
	for _, n := range []int{1, 2, 39, 40} {
		c := append(code(n)[:n-1], api.Ins{Op: api.OpJump, K: int64(n - 1)})
		if n > 1 { // a code may name itself, too
			c[0] = api.Ins{Op: api.OpSpawn, K: int64(len(p.Codes))}
		}
		add(len(p.Codes) < 8, func(q *api.Program) { q.Codes = append(q.Codes, c) })
		add(len(p.Codes) < 8, func(q *api.Program) { q.Codes = append(q.Codes, code(n)) })
	}
	return l
}

// TestP113Greater: with a code, a site or a channel more a program may be still, and all that was in it is there; with one beyond the most it may not.
func TestP113Greater(t *testing.T) {
	for p := range good {
		for _, q := range grown(p) {
			checked(t, q, fault{})
			held(t, p, q, false)
			for k, c := range p.Codes {
				for pc, x := range c {
					found(t, q, k, pc, x, true)
				}
			}
			for ch := api.NoChan; ch < len(p.Caps); ch++ {
				if a, b := prog.Uses(p, ch), prog.Uses(q, ch); a > b {
					t.Fatalf("Uses(%d) of %+v is %d, of %+v %d", ch, p, a, q, b)
				}
			}
		}
	}
	p := sample.Full()
	p.Codes = append(p.Codes, code(1))
	checked(t, p, fault{0, 0, api.ErrCode})
	p.Sites = append(p.Sites, site(1))
	checked(t, p, fault{0, 0, api.ErrSite})
	p.Caps = append(p.Caps, 0)
	checked(t, p, fault{0, 0, api.ErrChan})
}

// TestP113GreaterToTheMost: one thing behind the other, from the least program up to each limit, in each order.
func TestP113GreaterToTheMost(t *testing.T) {
	for order := range 300 {
		p := api.Program{Codes: [][]api.Ins{{end}}}
		steps := 0
		for l := grown(p); len(l) > 0; l = grown(p) {
			p = l[sample.Mix(order*100+steps)%uint64(len(l))]
			steps++
			checked(t, p, fault{})
		}
		if steps != 6+12+7 {
			t.Fatalf("%d: %d steps", order, steps)
		}
	}
}

// TestSameAgain: what was asked ahead changes no answer (R6).
func TestSameAgain(t *testing.T) {
	p, broken := sample.Plain(), with(func(p *api.Program) { p.Codes[1][2].Ch = 3 })
	for range 50 {
		checked(t, p, fault{})
		checked(t, broken, fault{1, 2, api.ErrCode})
		checked(t, api.Program{}, fault{0, 0, api.ErrCode})
		held(t, p, broken, false)
		used(t, p, 2, 3)
		found(t, p, 3, 1, end, true)
		held(t, copied(t, p), sample.Plain(), true)
	}
}
