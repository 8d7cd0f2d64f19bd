package frame_test

import (
	"math"
	"math/big"
	"slices"
	"testing"

	"tollbar/api"
	"tollbar/frame"
	"tollbar/prog"
	"tollbar/sample"
)

var end = api.Ins{Op: api.OpEnd}

type registers = [api.Regs]int64

// far are numbers that are no code, no instruction, no register, no case, and not Plain; many have the low bits of one that is.
func far() []int {
	return []int{-2, -3, -8, -127, -128, -255, -256, 41, 64, 128, 255, 256, 257, 1 << 16, 1<<16 + 1, 1 << 31, 1<<32 - 1, 1 << 32, 1<<32 + 1, -1 << 32, -1<<32 + 1, 1 << 62,
		math.MaxInt, math.MaxInt - 1, math.MinInt, math.MinInt + 1}
}

// edges are values at which a register, or a sum of two, could go wrong.
func edges() []int64 {
	return []int64{0, 1, -1, 2, -2, 7, 1 << 31, 1<<32 - 1, 1 << 32, -1 << 32, 1<<53 + 1, 1 << 62, math.MaxInt64, math.MaxInt64 - 1, math.MinInt64, math.MinInt64 + 1}
}

// filled are registers no two of which are the same, none of them 0.
func filled() (r registers) {
	for k := range r {
		r[k] = int64(k+1) * 1000003
	}
	return r
}

// mixed are registers that n alone tells, about every third of which is 0.
func mixed(n int) (r registers) {
	for k := range r {
		if h := sample.Mix(n*api.Regs + k); h%3 != 0 {
			r[k] = int64(h) >> (h >> 20 % 64)
		}
	}
	return r
}

// there is whether p has the code of f, and its instruction, by the document's words, without the package.
func there(p api.Program, f api.Frame) bool {
	return f.Code >= 0 && f.Code < len(p.Codes) && f.Pc >= 0 && f.Pc < len(p.Codes[f.Code])
}

// isLocal is whether an Op is one of the four.
func isLocal(op uint8) bool { return op >= 1 && op <= 4 }

// sum is a and b, modulo 2^64.
func sum(a, b int64) int64 {
	s := new(big.Int).Add(big.NewInt(a), big.NewInt(b))
	s.And(s, new(big.Int).SetUint64(math.MaxUint64))
	return int64(s.Uint64())
}

// stepped is what Step must answer of a program that may be.
func stepped(p api.Program, f api.Frame) (api.Frame, api.Errno) {
	if !there(p, f) {
		return api.Frame{}, api.ErrArg
	}
	x := p.Codes[f.Code][f.Pc]
	switch x.Op {
	case api.OpSet:
		f.R[x.A], f.Pc = x.K, f.Pc+1
	case api.OpAdd:
		f.R[x.A], f.Pc = sum(f.R[x.A], f.R[x.B]), f.Pc+1
	case api.OpJump:
		f.Pc = int(x.K)
	case api.OpZero:
		to := f.Pc + 1
		if f.R[x.A] == 0 {
			to = int(x.K)
		}
		f.Pc = to
	default:
		return api.Frame{}, api.ErrType
	}
	return f, api.OK
}

// put is what one register is made, behind the others.
type put struct {
	reg int
	v   int64
}

// puts are what Done makes registers, in order, and whether it may be with k.
func puts(p api.Program, x api.Ins, k int, val int64, ok bool) ([]put, bool) {
	sent := map[bool]int64{true: 1}[ok]
	switch {
	case x.Op == api.OpRecv:
		return []put{{x.A, val}, {x.B, sent}}, k == -1
	case x.Op != api.OpSelect:
		return nil, k == -1
	}
	s := p.Sites[x.K]
	if k == len(s.Cases) && s.Default {
		return []put{{x.B, int64(k)}}, true
	}
	if k < 0 || k >= len(s.Cases) {
		return nil, false
	}
	if c := s.Cases[k]; !c.Send {
		return []put{{c.Val, val}, {c.Ok, sent}, {x.B, int64(k)}}, true
	}
	return []put{{x.B, int64(k)}}, true
}

// served is what Done must answer of a program that may be.
func served(p api.Program, f api.Frame, k int, val int64, ok bool) (api.Frame, api.Errno) {
	if !there(p, f) {
		return api.Frame{}, api.ErrArg
	}
	x := p.Codes[f.Code][f.Pc]
	if isLocal(x.Op) {
		return api.Frame{}, api.ErrType
	}
	l, may := puts(p, x, k, val, ok)
	if !may {
		return api.Frame{}, api.ErrArg
	}
	for _, w := range l {
		f.R[w.reg] = w.v
	}
	if x.Op != api.OpEnd {
		f.Pc++
	}
	return f, api.OK
}

// step fails, unless Step answers that.
func step(t *testing.T, p api.Program, f, want api.Frame, err api.Errno) {
	t.Helper()
	if g, e := frame.Step(p, f); g != want || e != err {
		t.Fatalf("of %+v: Step(%v) is %v, %v, not %v, %v", p, f, g, e, want, err)
	}
}

// run fails, unless Run answers that.
func run(t *testing.T, p api.Program, f api.Frame, most int, want api.Frame, wantN int, err api.Errno) {
	t.Helper()
	if g, n, e := frame.Run(p, f, most); g != want || n != wantN || e != err {
		t.Fatalf("of %+v: Run(%v, %d) is %v, %d, %v, not %v, %d, %v", p, f, most, g, n, e, want, wantN, err)
	}
}

// done fails, unless Done answers what it must.
func done(t *testing.T, p api.Program, f api.Frame, k int, val int64, ok bool) {
	t.Helper()
	want, err := served(p, f, k, val, ok)
	if g, e := frame.Done(p, f, k, val, ok); g != want || e != err {
		t.Fatalf("of %+v: Done(%v, %d, %d, %v) is %v, %v, not %v, %v", p, f, k, val, ok, g, e, want, err)
	}
}

// may fails, unless p may be.
func may(t *testing.T, p api.Program) {
	t.Helper()
	if at, pc, e := prog.Check(p); e != api.OK {
		t.Fatalf("%+v: %d, %d, %v", p, at, pc, e)
	}
}

// one is a program of one code, of those instructions and an end.
func one(l ...api.Ins) api.Program { return api.Program{Codes: [][]api.Ins{append(l, end)}} }

// few are programs that may be, of all kinds.
func few(n int) []api.Program {
	l := []api.Program{sample.Plain(), sample.Full()}
	for k := range n {
		l = append(l, sample.Made(k))
	}
	return l
}

// frames goes over all frames of p, and some beside them, with those registers.
func frames(p api.Program, r registers) func(yield func(f api.Frame) bool) {
	return func(yield func(f api.Frame) bool) {
		for code := -1; code <= len(p.Codes); code++ {
			length := 0
			if code >= 0 && code < len(p.Codes) {
				length = len(p.Codes[code])
			}
			for pc := -1; pc <= length; pc++ {
				if !yield(api.Frame{Code: code, Pc: pc, R: r}) {
					return
				}
			}
		}
	}
}

// asked fails, unless Check and At answer of f what they must.
func asked(t *testing.T, p api.Program, f api.Frame) {
	t.Helper()
	want, is, err := api.Ins{}, there(p, f), api.ErrArg
	if is {
		want, err = p.Codes[f.Code][f.Pc], api.OK
	}
	if e := frame.Check(p, f); e != err {
		t.Fatalf("of %+v: Check(%v) is %v, not %v", p, f, e, err)
	}
	if x, got := frame.At(p, f); x != want || got != is {
		t.Fatalf("of %+v: At(%v) is %+v, %v, not %+v, %v", p, f, x, got, want, is)
	}
}

// TestP131Check: of all codes and instructions, those beside them and far outside; also of programs that may not be, since which frames may be hangs on their codes alone.
func TestP131Check(t *testing.T) {
	l := append(few(200), api.Program{}, api.Program{Codes: [][]api.Ins{}}, api.Program{Codes: [][]api.Ins{nil, {end}, {}, {{}, {Op: 99, A: -5, K: 3}}}},
		api.Program{Codes: slices.Repeat([][]api.Ins{slices.Repeat([]api.Ins{{Op: api.OpSet, A: 9}}, 60)}, 20)})
	for n, p := range l {
		for f := range frames(p, mixed(n)) {
			asked(t, p, f)
		}
		for _, v := range far() {
			asked(t, p, api.Frame{Code: v})
			asked(t, p, api.Frame{Code: v, Pc: v})
			asked(t, p, api.Frame{Pc: v, R: filled()})
			asked(t, p, api.Frame{Code: len(p.Codes) - 1, Pc: v})
		}
	}
	p := sample.Plain() // its codes have 5, 4, 3, 2 instructions
	for f, want := range map[api.Frame]api.Errno{{}: api.OK, {Pc: 4}: api.OK, {Pc: 5}: api.ErrArg, {Code: 3, Pc: 1}: api.OK, {Code: 3, Pc: 2}: api.ErrArg, {Code: 4}: api.ErrArg, {Code: -1}: api.ErrArg, {Pc: -1}: api.ErrArg} {
		if e := frame.Check(p, f); e != want {
			t.Errorf("%v: %v", f, e)
		}
	}
	if x, is := frame.At(p, api.Frame{Code: 2}); !is || x != (api.Ins{Op: api.OpSet, A: 7, K: -5000}) {
		t.Error(x, is)
	}
	p.Codes[3] = p.Codes[3][:1] // what stands behind a code's end is none of it
	asked(t, p, api.Frame{Code: 3, Pc: 1})
	p.Codes = p.Codes[:3]
	asked(t, p, api.Frame{Code: 3})
}

// TestP131Registers: whatever they are, the frame may be.
func TestP131Registers(t *testing.T) {
	p := sample.Plain()
	for k := range api.Regs {
		for _, v := range edges() {
			f := api.Frame{Code: 1, Pc: 3}
			f.R[k] = v
			asked(t, p, f)
			f.Pc = 4
			asked(t, p, f)
		}
	}
}

// TestP131Begin: of every number, whether a program has such a code or not.
func TestP131Begin(t *testing.T) {
	for _, code := range append(far(), -1, 0, 1, 2, 7, 8) {
		if f := frame.Begin(code); f != (api.Frame{Code: code}) {
			t.Fatalf("Begin(%d) is %v", code, f)
		}
		for _, f := range []api.Frame{{}, {Code: 3, Pc: 2}, {Code: -1, Pc: -1, R: filled()}, {Code: code, Pc: code, R: filled()}, {Pc: 39, R: mixed(code)}} {
			if s := frame.Spawn(f, code); s != (api.Frame{Code: code, R: f.R}) {
				t.Fatalf("Spawn(%v, %d) is %v", f, code, s)
			}
		}
	}
}

// TestP132Example: the chapter's.
func TestP132Example(t *testing.T) {
	p := one(api.Ins{Op: api.OpSet, K: 5}, api.Ins{Op: api.OpAdd}, api.Ins{Op: api.OpZero, A: 1, K: 4}, end)
	p.Codes[0][4] = api.Ins{Op: api.OpJump, K: 3}
	may(t, p)
	run(t, p, frame.Begin(0), 4, api.Frame{Pc: 3, R: registers{10}}, 4, api.OK)
	run(t, p, frame.Begin(0), api.MaxRun, api.Frame{Pc: 3, R: registers{10}}, 4, api.OK)
	run(t, p, frame.Begin(0), 3, api.Frame{}, 0, api.ErrLong)
}

// TestP132Set: each register, each value, and no other register.
func TestP132Set(t *testing.T) {
	for a := range api.Regs {
		for _, k := range edges() {
			want := filled()
			want[a] = k
			step(t, one(api.Ins{Op: api.OpSet, A: a, K: k}), api.Frame{R: filled()}, api.Frame{Pc: 1, R: want}, api.OK)
		}
	}
}

// TestP132Add: all pairs of registers, one twice too, of all values, beyond both ends of 64 bits.
func TestP132Add(t *testing.T) {
	for a := range api.Regs {
		for b := range api.Regs {
			p := one(end, api.Ins{Op: api.OpAdd, A: a, B: b})
			for _, v := range edges() {
				for _, w := range edges() {
					f := api.Frame{Pc: 1, R: filled()}
					f.R[a], f.R[b] = v, w
					want := f
					want.Pc, want.R[a] = 2, sum(f.R[a], w)
					step(t, p, f, want, api.OK)
				}
			}
		}
	}
	p := one(api.Ins{Op: api.OpAdd, A: 2, B: 3})
	step(t, p, api.Frame{R: registers{2: math.MaxInt64, 3: 1}}, api.Frame{Pc: 1, R: registers{2: math.MinInt64, 3: 1}}, api.OK)
	step(t, p, api.Frame{R: registers{2: math.MinInt64, 3: -1}}, api.Frame{Pc: 1, R: registers{2: math.MaxInt64, 3: -1}}, api.OK)
	step(t, p, api.Frame{R: registers{2: math.MinInt64, 3: math.MinInt64}}, api.Frame{Pc: 1, R: registers{3: math.MinInt64}}, api.OK)
}

// TestP132Goes: jumps, and zeros of each register, from each place of a code to each place, onto themselves too.
func TestP132Goes(t *testing.T) {
	for length := 1; length <= api.MaxIns; length += 1 + length/7 {
		for from := range length {
			for to := range length {
				p := api.Program{Codes: [][]api.Ins{{end}, append(slices.Repeat([]api.Ins{{Op: api.OpSet}}, length-1), end)}}
				f := api.Frame{Code: 1, Pc: from, R: filled()}
				want := f
				want.Pc = to
				p.Codes[1][from] = api.Ins{Op: api.OpJump, K: int64(to)}
				may(t, p)
				step(t, p, f, want, api.OK)
				if from == length-1 {
					continue // such a program may not be
				}
				a := (from + to) % api.Regs
				p.Codes[1][from] = api.Ins{Op: api.OpZero, A: a, K: int64(to)}
				may(t, p)
				f.R[a], want.R[a] = 0, 0
				step(t, p, f, want, api.OK)
				want.Pc = from + 1
				for _, v := range edges()[1:] {
					f.R[a], want.R[a] = v, v
					step(t, p, f, want, api.OK)
				}
			}
		}
	}
}

// TestP132ZeroAsksOne: a zero hangs on its own register, not on another one.
func TestP132ZeroAsksOne(t *testing.T) {
	for a := range api.Regs {
		p := one(api.Ins{Op: api.OpZero, A: a, K: 2}, end)
		for bits := range 1 << api.Regs {
			var r registers
			for k := range r {
				r[k] = int64(bits >> k & 1)
			}
			to := 2 - int(r[a])
			step(t, p, api.Frame{R: r}, api.Frame{Pc: to, R: r}, api.OK)
		}
	}
}

// TestP132NotLocal: each other Op, and what is no place of a program.
func TestP132NotLocal(t *testing.T) {
	p := api.Program{Caps: []int{1}, Sites: []api.Site{{Cases: []api.Case{{}}, Default: true}}, Codes: [][]api.Ins{{
		{Op: api.OpSend}, {Op: api.OpRecv}, {Op: api.OpClose}, {Op: api.OpSelect}, {Op: api.OpSpawn}, end}}}
	may(t, p)
	for pc := range p.Codes[0] {
		f := api.Frame{Pc: pc, R: filled()}
		step(t, p, f, api.Frame{}, api.ErrType)
		for _, most := range []int{0, 1, 2, api.MaxRun} {
			run(t, p, f, most, f, 0, api.OK)
		}
	}
	for _, v := range append(far(), -1, 6) {
		step(t, p, api.Frame{Pc: v, R: filled()}, api.Frame{}, api.ErrArg)
		step(t, p, api.Frame{Code: v, R: filled()}, api.Frame{}, api.ErrArg)
		run(t, p, api.Frame{Pc: v, R: filled()}, 5, api.Frame{}, 0, api.ErrArg)
		run(t, p, api.Frame{Code: v, R: filled()}, 5, api.Frame{}, 0, api.ErrArg)
	}
}

// TestP132All: all frames of many programs.
func TestP132All(t *testing.T) {
	for n, p := range few(3000) {
		for k := range 3 {
			for f := range frames(p, mixed(3*n+k)) {
				want, err := stepped(p, f)
				step(t, p, f, want, err)
			}
		}
	}
}

// TestP132RunMost: how many may be asked for, of frames that may be, and may not be.
func TestP132RunMost(t *testing.T) {
	p := one(api.Ins{Op: api.OpSet, K: 3}, api.Ins{Op: api.OpSet, A: 7, K: -3})
	want := api.Frame{Pc: 2, R: registers{0: 3, 7: -3}}
	for _, most := range []int{2, 3, 4, 100, api.MaxRun - 1, api.MaxRun} {
		run(t, p, frame.Begin(0), most, want, 2, api.OK)
		run(t, p, want, most, want, 0, api.OK)
	}
	for _, most := range []int{0, 1} {
		run(t, p, frame.Begin(0), most, api.Frame{}, 0, api.ErrLong)
	}
	run(t, p, api.Frame{Pc: 1}, 1, api.Frame{Pc: 2, R: registers{7: -3}}, 1, api.OK)
	run(t, p, api.Frame{Pc: 1}, 0, api.Frame{}, 0, api.ErrLong)
	run(t, p, want, 0, want, 0, api.OK)
	for _, most := range []int{-1, -2, api.MaxRun + 1, api.MaxRun + 2, 1 << 31, 1 << 32, 1<<32 + 2, -1 << 32, math.MaxInt, math.MinInt} {
		for _, f := range []api.Frame{{}, want, {Pc: 3}, {Code: 1}, {Code: -1}} {
			run(t, p, f, most, api.Frame{}, 0, api.ErrArg)
		}
	}
	for _, f := range []api.Frame{{Pc: 3}, {Pc: -1}, {Code: 1}, {Code: -1}} {
		for _, most := range []int{0, 1, api.MaxRun} {
			run(t, p, f, most, api.Frame{}, 0, api.ErrArg)
		}
	}
}

// counting is a program that does sets, three instructions for each of n, and a last one.
func counting(sets int, n int64) api.Program {
	at := int64(sets + 1)
	code := append(slices.Repeat([]api.Ins{{Op: api.OpSet, K: n}}, sets), api.Ins{Op: api.OpSet, A: 1, K: -1},
		api.Ins{Op: api.OpZero, K: at + 3}, api.Ins{Op: api.OpAdd, B: 1}, api.Ins{Op: api.OpJump, K: at}, end)
	return api.Program{Codes: [][]api.Ins{code}}
}

// TestP132RunLong: as many instructions as Run does at all, one fewer, one more, and without an end.
func TestP132RunLong(t *testing.T) {
	for sets := 1; sets <= 4; sets++ {
		for _, n := range []int64{0, 1, 2, 21842, 21843, 21844, 21845} {
			p := counting(sets, n)
			may(t, p)
			takes := sets + 2 + 3*int(n)
			last := api.Frame{Pc: sets + 4, R: registers{0, -1}}
			for _, most := range []int{takes - 1, takes, takes + 1, api.MaxRun - 1, api.MaxRun} {
				switch {
				case most > api.MaxRun:
				case most < takes:
					run(t, p, frame.Begin(0), most, api.Frame{}, 0, api.ErrLong)
				default:
					run(t, p, frame.Begin(0), most, last, takes, api.OK)
				}
			}
		}
	}
	run(t, counting(2, 21844), frame.Begin(0), api.MaxRun, api.Frame{Pc: 6, R: registers{0, -1}}, 65536, api.OK)
	run(t, counting(3, 21844), frame.Begin(0), api.MaxRun, api.Frame{}, 0, api.ErrLong)
	for _, code := range [][]api.Ins{{{Op: api.OpJump}}, {{Op: api.OpZero}, end}, {{Op: api.OpSet}, {Op: api.OpJump}}, {{Op: api.OpAdd}, {Op: api.OpZero, A: 3}, end}} {
		p := api.Program{Codes: [][]api.Ins{{end}, code}}
		may(t, p)
		for _, most := range []int{0, 1, 2, 1000, api.MaxRun} {
			run(t, p, frame.Begin(1), most, api.Frame{}, 0, api.ErrLong)
		}
	}
}

// TestP132RunAll: of all frames of many programs, by steps that are told without the package.
func TestP132RunAll(t *testing.T) {
	const most = 200
	endless, ended := 0, 0
	for n, p := range few(3000) {
		for f := range frames(p, mixed(n)) {
			if !there(p, f) {
				run(t, p, f, most, api.Frame{}, 0, api.ErrArg)
				continue
			}
			at, k := f, 0
			for ; k <= most && isLocal(p.Codes[at.Code][at.Pc].Op); k++ {
				at, _ = stepped(p, at)
			}
			if k > most {
				endless++
				run(t, p, f, most, api.Frame{}, 0, api.ErrLong)
				continue
			}
			ended++
			run(t, p, f, most, at, k, api.OK)
			run(t, p, f, k, at, k, api.OK)
			if k > 0 {
				run(t, p, f, k-1, api.Frame{}, 0, api.ErrLong)
			}
		}
	}
	if endless < 1000 || ended < 10000 {
		t.Error(endless, ended)
	}
}

// TestP133Plain: of each Op that is no select, with Plain and all else; of local ones what is wrong with k is not asked.
func TestP133Plain(t *testing.T) {
	p := api.Program{Caps: []int{0}, Codes: [][]api.Ins{{{Op: api.OpSend, A: 1}, {Op: api.OpRecv, A: 2, B: 3}, {Op: api.OpClose}, {Op: api.OpSpawn}, end, {Op: api.OpSet, A: 5, K: 5}, {Op: api.OpAdd}, {Op: api.OpZero}, {Op: api.OpJump}}}}
	may(t, p)
	got := func(pc, k int, want api.Frame, err api.Errno) {
		t.Helper()
		if g, e := frame.Done(p, api.Frame{Pc: pc, R: filled()}, k, 77, true); g != want || e != err {
			t.Fatalf("Done at %d with %d is %v, %v", pc, k, g, e)
		}
	}
	recv := filled()
	recv[2], recv[3] = 77, 1
	got(0, api.Plain, api.Frame{Pc: 1, R: filled()}, api.OK)
	got(1, api.Plain, api.Frame{Pc: 2, R: recv}, api.OK)
	got(2, api.Plain, api.Frame{Pc: 3, R: filled()}, api.OK)
	got(3, api.Plain, api.Frame{Pc: 4, R: filled()}, api.OK)
	got(4, api.Plain, api.Frame{Pc: 4, R: filled()}, api.OK)
	for _, k := range append(far(), 0, 1, 2, 5, 6, 7) {
		for pc := range 5 {
			got(pc, k, api.Frame{}, api.ErrArg)
		}
	}
	for _, k := range append(far(), api.Plain, 0, 1) {
		for pc := 5; pc < 9; pc++ {
			got(pc, k, api.Frame{}, api.ErrType)
		}
		for _, pc := range append(far(), -1, 9) {
			got(pc, k, api.Frame{}, api.ErrArg)
		}
	}
}

// TestP133Recv: all pairs of registers, one for both too, where whether it was sent is put last.
func TestP133Recv(t *testing.T) {
	for a := range api.Regs {
		for b := range api.Regs {
			for ch := api.NoChan; ch < 2; ch++ {
				p := api.Program{Caps: []int{0, 3}, Codes: [][]api.Ins{{{Op: api.OpRecv, A: a, B: b, Ch: ch}, end}}}
				may(t, p)
				for _, val := range edges() {
					for _, ok := range []bool{false, true} {
						done(t, p, api.Frame{R: filled()}, api.Plain, val, ok)
						want := filled()
						want[a] = val
						want[b] = 0
						if ok {
							want[b] = 1
						}
						if g, e := frame.Done(p, api.Frame{R: filled()}, api.Plain, val, ok); g.R != want || e != api.OK {
							t.Fatal(g, e, want)
						}
					}
				}
			}
		}
	}
}

// TestP133Select: a case's Val, its Ok and B are all that three registers can be, one of them for two or three too; what the case does to them comes in that order.
func TestP133Select(t *testing.T) {
	for n := range api.Regs * api.Regs * api.Regs {
		val, ok, b := n%8, n/8%8, n/64
		p := api.Program{Caps: []int{1}, Codes: [][]api.Ins{{{Op: api.OpSelect, B: b, K: 1}, end}}, Sites: []api.Site{
			{Cases: []api.Case{{Val: 7, Ok: 7}}},
			{Cases: []api.Case{{Send: true, Val: val}, {Ch: api.NoChan, Val: val, Ok: ok}, {Val: ok, Ok: val}}, Default: true}}}
		may(t, p)
		for k := range 4 {
			for _, is := range []bool{false, true} {
				for _, v := range []int64{0, 1, -9, math.MinInt64} {
					done(t, p, api.Frame{R: filled()}, k, v, is)
				}
			}
		}
		want := filled()
		want[val] = -9
		want[ok] = 1
		want[b] = 1
		if g, e := frame.Done(p, api.Frame{R: filled()}, 1, -9, true); g != (api.Frame{Pc: 1, R: want}) || e != api.OK {
			t.Fatal(g, e, want)
		}
		for _, k := range []int{0, 3} { // a send, and the default: B alone
			want = filled()
			want[b] = int64(k)
			if g, e := frame.Done(p, api.Frame{R: filled()}, k, -9, true); g != (api.Frame{Pc: 1, R: want}) || e != api.OK {
				t.Fatal(g, e, want)
			}
		}
	}
}

// TestP133Cases: which k may be, of sites of each count of cases, with a default and without, the others being of another count.
func TestP133Cases(t *testing.T) {
	for n := 1; n <= api.MaxCases; n++ {
		for _, def := range []bool{false, true} {
			for at := range 3 {
				p := api.Program{Codes: [][]api.Ins{{{Op: api.OpSelect, B: 1, K: int64(at)}, end}}}
				for site := range 3 {
					if site == at {
						p.Sites = append(p.Sites, api.Site{Cases: slices.Repeat([]api.Case{{Ch: api.NoChan, Val: 2, Ok: 3}}, n), Default: def})
					} else {
						p.Sites = append(p.Sites, api.Site{Cases: slices.Repeat([]api.Case{{Ch: api.NoChan}}, 7-n), Default: !def})
					}
				}
				may(t, p)
				for _, k := range append(far(), -1, 0, 1, 2, 3, 4, 5, 6, 7, 8) {
					want, err := api.Frame{}, api.ErrArg
					switch {
					case k >= 0 && k < n:
						want, err = api.Frame{Pc: 1, R: registers{1: int64(k), 2: 50}}, api.OK
					case k == n && def:
						want, err = api.Frame{Pc: 1, R: registers{1: int64(k)}}, api.OK
					}
					if g, e := frame.Done(p, api.Frame{}, k, 50, false); g != want || e != err {
						t.Fatalf("%d cases, default %v: Done with %d is %v, %v", n, def, k, g, e)
					}
				}
			}
		}
	}
}

// TestP133All: all frames of many programs, with each k that is near one that may be.
func TestP133All(t *testing.T) {
	for n, p := range few(1000) {
		for f := range frames(p, mixed(n)) {
			for k := -2; k <= 7; k++ {
				h := sample.Mix(n*10 + k)
				done(t, p, f, k, int64(h), h>>7&1 == 0)
			}
		}
	}
}

// named are the registers that the instruction at f names, or its case k does.
func named(p api.Program, f api.Frame, k int) map[int]bool {
	x, _ := frame.At(p, f)
	l, _ := puts(p, x, k, 0, false)
	is := map[int]bool{}
	for _, w := range l {
		is[w.reg] = true
	}
	return is
}

// kept fails, unless g may be, is of the code of f, and has f's registers but those.
func kept(t *testing.T, p api.Program, f, g api.Frame, but map[int]bool) {
	t.Helper()
	if frame.Check(p, g) != api.OK || g.Code != f.Code {
		t.Fatalf("of %+v: from %v to %v", p, f, g)
	}
	for k := range f.R {
		if f.R[k] != g.R[k] && !but[k] {
			t.Fatalf("of %+v: from %v to %v: register %d", p, f, g, k)
		}
	}
}

// TestP134Leaves: whatever is done, the frame that is left may be, and no register is changed that is not named.
func TestP134Leaves(t *testing.T) {
	for n, p := range few(1500) {
		for f := range frames(p, mixed(n)) {
			if x, is := frame.At(p, f); is && isLocal(x.Op) {
				g, e := frame.Step(p, f)
				if e != api.OK {
					t.Fatalf("of %+v: Step(%v): %v", p, f, e)
				}
				kept(t, p, f, g, map[int]bool{x.A: x.Op == api.OpSet || x.Op == api.OpAdd})
			}
			for k := -1; k <= api.MaxCases; k++ {
				if g, e := frame.Done(p, f, k, int64(n)+5, true); e == api.OK {
					kept(t, p, f, g, named(p, f, k))
				}
			}
		}
	}
}

// TestP134Run: it is that many Steps, each of which can be done, and none can be at its end.
func TestP134Run(t *testing.T) {
	ran := 0
	for n, p := range few(1500) {
		for f := range frames(p, mixed(n)) {
			g, k, e := frame.Run(p, f, 300)
			if e != api.OK {
				continue
			}
			at := f
			for range k {
				if at, e = frame.Step(p, at); e != api.OK {
					t.Fatalf("of %+v: %d steps of %v: %v", p, k, f, e)
				}
			}
			if at != g {
				t.Fatalf("of %+v: Run(%v) is %v, %d, by steps %v", p, f, g, k, at)
			}
			step(t, p, g, api.Frame{}, api.ErrType)
			kept(t, p, registered(f, g.R), g, nil)
			ran += k
		}
	}
	if ran < 20000 {
		t.Error(ran)
	}
}

// registered is f with those registers.
func registered(f api.Frame, r registers) api.Frame {
	f.R = r
	return f
}

// broken answers programs that may not be: sample.Made with a few numbers that are far outside, and codes that can be left at their ends.
func broken(n int) api.Program {
	p := sample.Made(n)
	h := int(sample.Mix(n) >> 8)
	odd := append(far(), -1, 8, 9)
	pick := func(k int) int { return odd[sample.Mix(h+k)%uint64(len(odd))] }
	for i, code := range p.Codes {
		for pc := range code {
			x := &code[pc]
			switch sample.Mix(h+100*i+pc) % 7 {
			case 0:
				x.A = pick(pc)
			case 1:
				x.B = pick(pc)
			case 2:
				x.K = int64(pick(pc))
			case 3:
				x.Op = uint8(pick(pc))
			}
		}
		if h>>i&1 == 0 {
			p.Codes[i] = code[:(len(code)+1)/2]
		}
	}
	for i := range p.Sites {
		c := p.Sites[i].Cases
		c[0].Val = pick(i)
		c[len(c)-1].Ok = pick(i + 50)
		if h>>i&1 == 0 {
			p.Sites[i].Cases = nil
		}
	}
	return p
}

// sane fails, unless there is a frame of p that may be, or an error and nothing else.
func sane(t *testing.T, p api.Program, f, g api.Frame, e api.Errno) {
	t.Helper()
	if e == api.OK && frame.Check(p, g) == api.OK {
		return
	}
	if e == api.OK || g != (api.Frame{}) {
		t.Fatalf("of %+v: from %v to %v, %v", p, f, g, e)
	}
}

// TestBroken: of programs that may not be every call ends and none panics (R1); beside an error there is nothing (R2).
func TestBroken(t *testing.T) {
	l := []api.Program{{}, {Codes: [][]api.Ins{nil}}, {Codes: [][]api.Ins{{{Op: api.OpSet}}}}, {Codes: [][]api.Ins{{{Op: api.OpSend}}}}, {Codes: [][]api.Ins{{{Op: api.OpSelect}, end}}}}
	for n := range 3000 {
		l = append(l, broken(n))
	}
	for _, p := range l {
		before := prog.Copy(p)
		for f := range frames(p, filled()) {
			g, e := frame.Step(p, f)
			sane(t, p, f, g, e)
			g, n, e := frame.Run(p, f, 100)
			sane(t, p, f, g, e)
			if e != api.OK && n != 0 {
				t.Fatalf("of %+v: Run(%v) is %v, %d, %v", p, f, g, n, e)
			}
			for k := -2; k <= 7; k++ {
				g, e = frame.Done(p, f, k, 5, true)
				sane(t, p, f, g, e)
			}
		}
		if !prog.Same(p, before) {
			t.Fatalf("%+v has been changed to %+v", before, p)
		}
	}
}

// TestSameAgain: no argument is changed (R5), and what was asked ahead changes no answer (R6).
func TestSameAgain(t *testing.T) {
	for _, p := range few(50) {
		before := prog.Copy(p)
		for range 3 {
			for f := range frames(p, filled()) {
				want, err := stepped(p, f)
				step(t, p, f, want, err)
				frame.Run(p, f, 50)
				asked(t, p, f)
				done(t, p, f, api.Plain, 3, false)
				done(t, p, f, 0, 3, true)
			}
		}
		if !prog.Same(p, before) {
			t.Fatalf("%+v has been changed to %+v", before, p)
		}
	}
}
