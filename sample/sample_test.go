package sample_test

import (
	"testing"

	"tollbar/api"
	"tollbar/prog"
	"tollbar/sample"
)

// may fails, unless p may be.
func may(t *testing.T, p api.Program) {
	t.Helper()
	if at, pc, e := prog.Check(p); e != api.OK {
		t.Fatalf("%+v: %d, %d, %v", p, at, pc, e)
	}
}

// TestMade: each may be, is the same again, and together they have all there is.
func TestMade(t *testing.T) {
	var ops [api.Ops + 1]int
	var chans, sites, codes, lengths [api.MaxIns + 1]int
	for n := range 5000 {
		p := sample.Made(n)
		may(t, p)
		if !prog.Same(p, sample.Made(n)) {
			t.Fatalf("%d is made otherwise again", n)
		}
		chans[len(p.Caps)]++
		sites[len(p.Sites)]++
		codes[len(p.Codes)]++
		for _, c := range p.Codes {
			lengths[len(c)]++
			for _, x := range c {
				ops[x.Op]++
			}
		}
	}
	for _, n := range append(append(ops[1:], chans[:7]...), codes[1:9]...) {
		if n < 100 {
			t.Fatal(ops, chans, codes)
		}
	}
	if sites[0] < 100 || sites[12] < 100 || lengths[1] < 100 || lengths[36] < 100 {
		t.Fatal(sites, lengths)
	}
}

// TestPlain: what is written out may be, with each kind of instruction, and is new memory each time.
func TestPlain(t *testing.T) {
	may(t, sample.Plain())
	may(t, sample.Full())
	met := map[uint8]bool{}
	for _, p := range []api.Program{sample.Plain(), sample.Full()} {
		for _, c := range p.Codes {
			for pc := range c {
				met[c[pc].Op] = true
				c[pc] = api.Ins{}
			}
		}
	}
	if len(met) != api.Ops {
		t.Fatal(met)
	}
	may(t, sample.Plain())
	may(t, sample.Full())
}
