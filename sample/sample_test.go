package sample_test

import (
	"strings"
	"testing"

	"tollbar/api"
	"tollbar/entry"
	"tollbar/prog"
	"tollbar/sample"
)

// may fails, unless p may be.
func may(t *testing.T, p api.Program) {
	t.Helper()
	if at, pc, e := prog.Check(p); e != api.OK {
		t.Fatalf("%+v: %d, %d, %v", p, at, pc, e)
	}
}

// TestMade: each may be, is the same again, and together they have all there is.
func TestMade(t *testing.T) {
	var ops [api.Ops + 1]int
	var chans, sites, codes, lengths [api.MaxIns + 1]int
	for n := range 5000 {
		p := sample.Made(n)
		may(t, p)
		if !prog.Same(p, sample.Made(n)) {
			t.Fatalf("%d is made otherwise again", n)
		}
		chans[len(p.Caps)]++
		sites[len(p.Sites)]++
		codes[len(p.Codes)]++
		for _, c := range p.Codes {
			lengths[len(c)]++
			for _, x := range c {
				ops[x.Op]++
			}
		}
	}
	for _, n := range append(append(ops[1:], chans[:7]...), codes[1:9]...) {
		if n < 100 {
			t.Fatal(ops, chans, codes)
		}
	}
	if sites[0] < 100 || sites[12] < 100 || lengths[1] < 100 || lengths[36] < 100 {
		t.Fatal(sites, lengths)
	}
}

// TestPlain: what is written out may be, with each kind of instruction, and is new memory each time.
func TestPlain(t *testing.T) {
	may(t, sample.Plain())
	may(t, sample.Full())
	met := map[uint8]bool{}
	for _, p := range []api.Program{sample.Plain(), sample.Full()} {
		for _, c := range p.Codes {
			for pc := range c {
				met[c[pc].Op] = true
				c[pc] = api.Ins{}
			}
		}
	}
	if len(met) != api.Ops {
		t.Fatal(met)
	}
	may(t, sample.Plain())
	may(t, sample.Full())
}

// TestCrowd: each may be, is the same again, and together they have each instruction, at all channels and at none.
func TestCrowd(t *testing.T) {
	var ops [api.Ops + 1]int
	var chans [api.MaxChans + 1]int
	for n := range 2000 {
		p := sample.Crowd(n)
		may(t, p)
		if !prog.Same(p, sample.Crowd(n)) {
			t.Fatalf("%d is made otherwise again", n)
		}
		for ch := range chans {
			chans[ch] += prog.Uses(p, ch-1)
		}
		for _, c := range p.Codes {
			for _, x := range c {
				ops[x.Op]++
			}
		}
	}
	for _, n := range append(append(ops[1:3], ops[5:]...), chans[:4]...) {
		if n < 100 {
			t.Fatal(ops, chans)
		}
	}
}

// TestBroken: none may be.
func TestBroken(t *testing.T) {
	for _, p := range sample.Broken() {
		if _, _, e := prog.Check(p); e == api.OK {
			t.Errorf("%+v may be", p)
		}
	}
}

// TestProgram: what lines tell; one that is none is found out.
func TestProgram(t *testing.T) {
	s := sample.Or(sample.Site(sample.Sends(0, 7), sample.Receives(-1, 6, 5)))
	p := sample.Program([]int{3}, []api.Site{s}, "set 7 -5, select 4 0, jump 1", "end")
	want := api.Program{
		Caps:  []int{3},
		Sites: []api.Site{{Cases: []api.Case{{Send: true, Val: 7}, {Ch: api.NoChan, Val: 6, Ok: 5}}, Default: true}},
		Codes: [][]api.Ins{{{Op: api.OpSet, A: 7, K: -5}, {Op: api.OpSelect, B: 4}, {Op: api.OpJump, K: 1}}, {{Op: api.OpEnd}}},
	}
	if !prog.Same(p, want) {
		t.Errorf("%+v", p)
	}
	if _, _, e := prog.Check(sample.Program(nil, nil, "set 0, end")); e == api.OK {
		t.Error("a line that is none may be")
	}
}

// TestLog: entries of all kinds have the lines of which they were made.
func TestLog(t *testing.T) {
	lines := "0 send 1 2 -1 -4, 0 recv 1 2 3 4 1, 7 meet 1 2 3 4 5 6 1, 7 refill 1 2 3 4 5 6 -7, 8 close 1 2, 8 wake 1 2 3 4, 9 default 1, 9 block 2, 9 spawn 1 2 3, 9 end 4, 10 fault 1 -1 140, 11 dispatch 254 1, 11 ready 1 2, 11 preempt 3 4, 11 locked 5 6, 11 poll 7 8 9, 12 free 3"
	l := sample.Log(lines)
	var back []string
	for _, x := range l {
		line, e := entry.Line(x)
		if e != api.OK {
			t.Error(x, e)
		}
		back = append(back, line)
	}
	if strings.Join(back, ", ") != lines {
		t.Error(back)
	}
	l = sample.Log("end 1, 5 end 2, end 3")
	if len(l) != 3 || l[0].At != 0 || l[1].At != 5 || l[2].At != 5 || l[2].Task != 3 || sample.Log("") != nil {
		t.Error(l)
	}
	for _, line := range []string{"5", "no 1", "end", "end 1 2", "end x", "1 2 end 3", ""} {
		if x := sample.Entry(3, line); entry.Check(x) == api.OK {
			t.Errorf("%q may be: %+v", line, x)
		}
	}
}

// TestAside: beside an entry are others, each field's among them.
func TestAside(t *testing.T) {
	x := api.Entry{At: 5, Kind: api.CMeet, Task: 1, Peer: 2, Ch: 3, Case: 4, PeerCase: 5, Val: 6, Ok: true}
	var fields [12]int
	for _, y := range sample.Aside(x) {
		for k, other := range []bool{x.At != y.At, x.Kind != y.Kind, x.Worker != y.Worker, x.Task != y.Task, x.Peer != y.Peer, x.Ch != y.Ch, x.Case != y.Case, x.PeerCase != y.PeerCase, x.Val != y.Val, x.Val2 != y.Val2, x.Ok != y.Ok, x.Code != y.Code || x.Set != y.Set} {
			if other {
				fields[k]++
			}
		}
	}
	for _, n := range fields {
		if n < 4 {
			t.Fatal(fields)
		}
	}
}
