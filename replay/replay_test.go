package replay_test

import (
	"math"
	"slices"
	"strings"
	"testing"

	"tollbar/api"
	"tollbar/entry"
	"tollbar/model"
	"tollbar/replay"
	"tollbar/sample"
)

// once is a program of one task that sends, receives, closes, and faults.
func once() api.Program {
	return sample.Program([]int{1}, nil, "set 0 5, send 0 0, recv 1 2 0, close 0, close 0, end")
}

// onceLog is all that it does.
const onceLog = "send 0 0 -1 5, recv 0 0 -1 5 1, close 0 0, fault 0 -1 141"

func TestExamples(t *testing.T) {
	p := sample.Program(nil, nil, "end")
	for _, x := range []struct {
		l  string
		at int
		e  api.Errno
	}{{"", 0, api.OK}, {"end 0", 1, api.OK}, {"end 0, end 0", 1, api.ErrMove}, {"block 0", 0, api.ErrMove}} {
		if at, e := replay.Check(p, 1, sample.Log(x.l)...); at != x.at || e != x.e {
			t.Errorf("Check(%s) is %d, %v", x.l, at, e)
		}
	}
}

// TestP181New: of a program that may not be, or without room that may be, all is refused, whatever the log is.
func TestP181New(t *testing.T) {
	var rows [][]api.Entry
	for _, l := range []string{"", "end 0", "end 0, end 0", "free 3", "free 255", "5 free 1, 4 free 1", "block 0", "locked 0 0, poll 0 0 0", "fault 0 -1 143, end 0"} {
		rows = append(rows, sample.Log(l))
	}
	rows = append(rows, []api.Entry{{}}, []api.Entry{{Kind: 200, At: -1}})
	for _, l := range rows {
		for _, p := range sample.Broken() {
			for _, most := range []int{1, 2, 32, 0, 33} {
				refused(t, p, most, l, 0, api.ErrArg)
			}
		}
		for _, p := range []api.Program{sample.Program(nil, nil, "end"), sample.Plain(), sample.Full()} {
			for _, most := range []int{0, -1, 33, 34, 64, 256, 257, 1<<32 + 1, math.MaxInt, math.MinInt} {
				refused(t, p, most, l, 0, api.ErrArg)
			}
		}
	}
}

// TestP181Room: each task has its room, and one more is a fault.
func TestP181Room(t *testing.T) {
	p := sample.Program(nil, nil, "spawn 0, jump 0")
	for most := 1; most <= 32; most++ {
		g, e := gone(p, most, nil)
		if e != api.OK {
			t.Fatal(e)
		}
		for n := 1; n < most; n++ {
			g = g.with(api.Entry{Kind: api.CSpawn, Task: n / 2, Peer: n})
		}
		held(t, p, most, g)
		held(t, p, most, g.with(api.Entry{Kind: api.CSpawn, Peer: most % 32}))
		g = g.with(api.Entry{Kind: api.CFault, Task: most - 1, Peer: -1, Code: api.FaultMany})
		held(t, p, most, g)
		if at, e := replay.Check(p, most, g.l...); at != most || e != api.OK {
			t.Errorf("room for %d: %d, %v", most, at, e)
		}
	}
}

// TestP181Wrong: which entry is the first one that is wrong, and which of its errors is told.
func TestP181Wrong(t *testing.T) {
	for _, x := range []struct {
		l  string
		at int
		e  api.Errno
	}{
		{"send 0 0 -1 4", 0, api.ErrMove},
		{"send 1 0 -1 5", 0, api.ErrMove},
		{"send 0 0 0 5", 0, api.ErrMove},
		{"recv 0 0 -1 5 1", 0, api.ErrMove},
		{"send 0 0 -1 5, send 0 0 -1 5", 1, api.ErrMove},
		{"send 0 0 -1 5, recv 0 0 -1 5 0", 1, api.ErrMove},
		{"send 0 0 -1 5, locked 0 0, recv 0 0 -1 0 1", 2, api.ErrMove},
		{"free 255", 0, api.ErrArg},
		{"free -1", 0, api.ErrArg},
		{"locked 0 32", 0, api.ErrArg},
		{"locked 0 -1", 0, api.ErrArg},
		{"poll 0 32 0", 0, api.ErrArg},
		{"-1 free 0", 0, api.ErrArg},
		{"-1 send 0 0 -1 5", 0, api.ErrArg},
		{"send 32 0 -1 5", 0, api.ErrArg},
		{"send 0 6 -1 5", 0, api.ErrArg},
		{"send 0 0 6 5", 0, api.ErrArg},
		{"end -1", 0, api.ErrArg},
		{"fault 0 -1 144", 0, api.ErrArg},
		{"what", 0, api.ErrArg},
		// not later than the one ahead, mark or commit
		{"5 send 0 0 -1 5, 4 recv 0 0 -1 5 1", 1, api.ErrBack},
		{"5 free 0, 4 send 0 0 -1 5", 1, api.ErrBack},
		{"5 send 0 0 -1 5, 4 free 0", 1, api.ErrBack},
		{"5 free 0, 4 free 0", 1, api.ErrBack},
		{"5 free 0, 0 free 0", 1, api.ErrBack},
		{"1 send 0 0 -1 5, 3 free 0, 2 recv 0 0 -1 5 1", 2, api.ErrBack},
		{"1 free 0, 3 send 0 0 -1 5, 2 locked 0 0, 4 free 0", 2, api.ErrBack},
		{"9223372036854775807 free 0, 9223372036854775806 free 0", 1, api.ErrBack},
		{"9223372036854775807 free 0, send 0 0 -1 5, 0 free 0", 2, api.ErrBack},
		{"4294967296 free 0, 1 free 0", 1, api.ErrBack},
		// what may not be is told ahead of that, and that ahead of what can't be done
		{"5 free 0, 4 free 255", 1, api.ErrArg},
		{"5 free 0, -1 free 0", 1, api.ErrArg},
		{"5 free 0, 4 send 0 6 -1 5", 1, api.ErrArg},
		{"5 free 0, 4 block 0", 1, api.ErrBack},
		{"5 free 0, 4 end 31", 1, api.ErrBack},
		// of several that are wrong the first one
		{"block 0, free 255", 0, api.ErrMove},
		{"free 255, block 0", 0, api.ErrArg},
		{"5 free 0, 4 free 0, block 0, free 255", 1, api.ErrBack},
		{"5 block 0, 4 free 0", 0, api.ErrMove},
		{"send 0 0 -1 5, free 1, locked 0 40, 0 block 0", 2, api.ErrArg},
		// behind a fault
		{onceLog + ", end 0", 4, api.ErrHalt},
		{onceLog + ", fault 0 -1 141", 4, api.ErrHalt},
		{onceLog + ", block 31", 4, api.ErrHalt},
		{onceLog + ", free 0, poll 0 3 7, end 0", 6, api.ErrHalt},
		{onceLog + ", free 0, free 255", 5, api.ErrArg},
		{onceLog + ", send 0 6 -1 5", 4, api.ErrArg},
		{onceLog + ", 5 free 0, 4 free 0", 5, api.ErrBack},
		{onceLog + ", 5 free 0, 4 end 0", 5, api.ErrBack},
		{onceLog + ", 5 free 0, 4 end 32", 5, api.ErrArg},
	} {
		l := sample.Log(x.l)
		refused(t, once(), 3, l, x.at, x.e)
		refused(t, once(), 3, append(slices.Clip(l), sample.Log("9223372036854775807 free 0, what, block 0")...), x.at, x.e)
	}
}

// TestP181Right: what is right, and how many entries that has.
func TestP181Right(t *testing.T) {
	for _, l := range []string{
		"",
		"send 0 0 -1 5",
		onceLog,
		"5 send 0 0 -1 5, 5 recv 0 0 -1 5 1, 9 close 0 0, 9223372036854775807 fault 0 -1 141",
		"9223372036854775807 free 254, send 0 0 -1 5",
		onceLog + ", free 0, 3 locked 0 0, poll 254 31 63, 7 ready 0 1, 7 preempt 0 31, 8 dispatch 0 9",
		"dispatch 0 31, ready 1 30, preempt 2 29, locked 3 28, poll 4 27 -1, free 5",
		"0 free 0, 0 free 0, 1 send 0 0 -1 5, 1 free 3, 4 recv 0 0 -1 5 1, 4 dispatch 1 1",
	} {
		row := sample.Log(l)
		if at, e := replay.Check(once(), 2, row...); at != len(row) || e != api.OK {
			t.Errorf("Check(%s) is %d, %v", l, at, e)
		}
		if m, e := replay.Run(once(), 2, row...); m == nil || e != api.OK {
			t.Errorf("Run(%s) is %v, %v", l, m, e)
		}
		g, _ := gone(once(), 2, row)
		held(t, once(), 2, g)
	}
}

// wrongOnes are entries, of each kind, that may not be, and which other field tells it.
func wrongOnes() (l []api.Entry) {
	for kind := range 256 {
		x := api.Entry{Kind: uint8(kind)}
		if kind == api.CFault {
			x.Code = api.FaultSend
		}
		wrong := []api.Entry{x, x, x, x, x}
		wrong[0].At = -1
		wrong[1].Task = 32
		wrong[2].Worker = 255
		wrong[3].Code++
		wrong[4].Peer = -2
		for _, y := range append(wrong, x) {
			if entry.Check(y) != api.OK {
				l = append(l, y)
			}
		}
	}
	return l
}

// TestP181MayNotBe: what may not be is found out wherever it stands, be it a mark or a commit.
func TestP181MayNotBe(t *testing.T) {
	row := sample.Log("send 0 0 -1 5, free 1, locked 0 0, poll 0 0 0, recv 0 0 -1 5 1, close 0 0, fault 0 -1 141, free 3")
	for at := range len(row) + 1 {
		for _, x := range wrongOnes() {
			refused(t, once(), 1, slices.Insert(slices.Clone(row), at, x), at, api.ErrArg)
		}
	}
}

// TestP181Logs: many logs, of many programs, each beginning of them, and the model behind.
func TestP181Logs(t *testing.T) {
	var kinds [32]int
	for n, c := range logs(t, 300, 60) {
		held(t, c.p, c.most, c.g)
		for _, x := range c.g.l {
			kinds[x.Kind]++
		}
		if n%9 == 0 {
			for k := range c.g.l {
				g, _ := gone(c.p, c.most, c.g.l[:k])
				held(t, c.p, c.most, g)
			}
		}
	}
	for kind, n := range kinds {
		if (kind >= 1 && kind <= 11 || kind >= 21 && kind <= 26) && n < 10 {
			t.Errorf("%d of kind %d", n, kind)
		}
	}
}

// TestP181Damaged: logs of which one entry is another one, left out, put twice, or changed with its neighbour.
func TestP181Damaged(t *testing.T) {
	found := map[api.Errno]int{}
	try := func(c course, l []api.Entry) {
		g, _ := gone(c.p, c.most, l)
		held(t, c.p, c.most, g)
		found[g.wrong]++
	}
	for n, c := range logs(t, 60, 24) {
		l := c.g.l
		if len(l) < 4 || endless(c.g.ahead[len(l)]) {
			continue
		}
		for round := range 6 {
			k := int(sample.Mix(n*6+round) % uint64(len(l)-1))
			try(c, slices.Delete(slices.Clone(l), k, k+1))
			try(c, slices.Insert(slices.Clone(l), k, l[k]))
			try(c, slices.Insert(slices.Clone(l), k, l[k+1]))
			swapped := slices.Clone(l)
			swapped[k], swapped[k+1] = l[k+1], l[k]
			try(c, swapped)
			beside := sample.Aside(l[k])
			for step := range 12 {
				other := slices.Clone(l)
				other[k] = beside[sample.Mix(n*72+round*12+step)%uint64(len(beside))]
				try(c, other)
			}
		}
	}
	for _, e := range []api.Errno{api.OK, api.ErrArg, api.ErrBack, api.ErrMove, api.ErrHalt} {
		if found[e] < 8 {
			t.Errorf("%v: %d times", e, found[e])
		}
	}
}

// TestP181OneFieldChanged: each entry of a log, with each field changed.
func TestP181OneFieldChanged(t *testing.T) {
	for n, s := range scenes() {
		if n%4 != 0 {
			continue
		}
		l := s.log(2)
		for k := range l {
			for _, x := range sample.Aside(l[k]) {
				other := slices.Clone(l)
				other[k] = x
				g, _ := gone(s.p, 4, other)
				held(t, s.p, 4, g)
			}
		}
	}
}

// TestP181RunGoesOn: the model behind a log goes on as by a longer one, and nothing of it is another one's.
func TestP181RunGoesOn(t *testing.T) {
	for _, c := range logs(t, 60, 40) {
		l := c.g.l
		k := len(l) / 2
		p, row := c.p, slices.Clone(l[:k])
		m, e := replay.Run(p, c.most, row...)
		other, _ := replay.Run(p, c.most, row...)
		if e != api.OK || m == other {
			t.Fatal(e)
		}
		if !slices.Equal(row, l[:k]) {
			t.Fatal("a log was changed")
		}
		clear(row)
		for _, x := range l[k:] {
			if !isCommit(x) {
				continue
			}
			if e := m.Apply(x); e != api.OK {
				t.Fatalf("of %+v: %+v behind %s is %v", c.p, x, lines(l), e)
			}
		}
		if state(m) != state(c.g.ahead[len(l)]) || state(other) != state(c.g.ahead[k]) {
			t.Fatalf("of %+v: behind %s it is %s", c.p, lines(l), state(m))
		}
	}
}

// TestP181RunKeepsNothing: a program that was handed in may be written to.
func TestP181RunKeepsNothing(t *testing.T) {
	p := once()
	m, e := replay.Run(p, 1, sample.Log("send 0 0 -1 5")...)
	if e != api.OK {
		t.Fatal(e)
	}
	p.Caps[0] = 8
	clear(p.Codes[0])
	p.Codes[0] = nil
	for _, x := range sample.Log("recv 0 0 -1 5 1, close 0 0, fault 0 -1 141") {
		if e := m.Apply(x); e != api.OK {
			t.Errorf("%+v is %v", x, e)
		}
	}
	if c := m.Chan(0); c.Cap() != 1 {
		t.Error(c.Cap())
	}
}

// TestArgumentsStay: neither a log nor a program is changed by any call, and what is told may be written to.
func TestArgumentsStay(t *testing.T) {
	for n, c := range logs(t, 80, 40) {
		p, l := c.p, slices.Clone(c.g.l)
		if n%3 == 0 {
			l = append(l, api.Entry{})
		}
		kept := slices.Clone(l)
		replay.Check(p, c.most, l...)
		replay.Run(p, c.most, l...)
		replay.Polls(p, c.most, l...)
		f, _ := replay.Stands(p, c.most, l...)
		clear(f)
		if !slices.Equal(l, kept) {
			t.Fatalf("%s is %s now", lines(kept), lines(l))
		}
		again := sample.Crowd(n)
		if n%8 == 7 {
			again = sample.Made(n)
		}
		if g, _ := gone(again, c.most, c.g.l); g.wrong != api.OK {
			t.Fatal("a program was changed")
		}
		held(t, p, c.most, c.g)
	}
}

// TestSameAgain: what is asked of other logs between changes nothing.
func TestSameAgain(t *testing.T) {
	var last course
	for n, c := range logs(t, 60, 40) {
		held(t, c.p, c.most, c.g)
		if n > 0 {
			held(t, last.p, last.most, last.g)
		}
		last = c
	}
}

// TestP183Stands: written out, of each kind of commit.
func TestP183Stands(t *testing.T) {
	type registers = [api.Regs]int64
	p := sample.Program([]int{0, 1}, []api.Site{sample.Or(sample.Site(sample.Receives(1, 1, 2)))}, "set 0 5, spawn 1, spawn 2, set 3 1, recv 4 5 0, select 6 0, close 1, close 1, end", "set 0 6, send 0 0, set 0 7, send 0 1, set 0 8, send 0 1, end", "recv 1 2 1, recv 3 4 1, recv 3 4 1, end")
	all := "2 dispatch 0 0, spawn 0 1 1, spawn 0 2 2, block 0, 3 locked 0 0, meet 1 0 0 -1 -1 6 1, send 1 1 -1 7, 4 block 1, refill 2 1 1 -1 -1 7 8, ready 0 1, recv 2 1 -1 8 1, block 2, end 1, default 0, close 0 1, free 4, wake 2 0 1 -1, end 2, fault 0 -1 141, free 1"
	l := sample.Log(all)
	zero := registers{5, 0, 0, 1, 6, 1, 1}
	want := []api.Frame{
		{Pc: 1, R: registers{5}},
		{Pc: 2, R: registers{5}},
		{Pc: 4, R: registers{5, 0, 0, 1}},
		{Code: 1, Pc: 1, R: registers{6}},
		{Code: 1, Pc: 3, R: registers{7}},
		{Code: 1, Pc: 5, R: registers{8}},
		{Code: 2, Pc: 0, R: registers{5}},
		{Code: 2, Pc: 1, R: registers{5, 7, 1}},
		{Code: 2, Pc: 2, R: registers{5, 7, 1, 8, 1}},
		{Code: 1, Pc: 6, R: registers{8}},
		{Pc: 5, R: registers{5, 0, 0, 1, 6, 1}},
		{Pc: 6, R: zero},
		{Code: 2, Pc: 3, R: registers{5, 7, 1}},
		{Pc: 7, R: zero},
	}
	f, e := replay.Stands(p, 3, l...)
	if e != api.OK || !slices.Equal(f, want) {
		t.Errorf("%v, %v\nnot %v", f, e, want)
	}
	g, _ := gone(p, 3, l)
	held(t, p, 3, g)
	for k := range l {
		if g, _ = gone(p, 3, l[:k]); len(g.stands()) > len(want) || g.wrong != api.OK {
			t.Fatal(k)
		}
		held(t, p, 3, g)
	}
}

// TestP183NoStand: a CFault of one that waits has no stand, whoever closed, and be it the task 0; one of one's own has.
func TestP183NoStand(t *testing.T) {
	p := sample.Program([]int{0}, nil, "spawn 1, spawn 2, close 0, end", "set 3 4, send 0 0, end", "close 0, end")
	for _, x := range []struct {
		l string
		n int
	}{
		{"spawn 0 1 1, spawn 0 2 2, block 1, close 0 0, fault 1 0 140", 4},
		{"spawn 0 1 1, spawn 0 2 2, block 1, close 2 0, fault 1 2 140", 4},
		{"spawn 0 1 1, spawn 0 2 2, close 0 0, fault 1 -1 140", 4},
		{"spawn 0 1 1, spawn 0 2 2, close 2 0, fault 0 -1 141", 4},
		{"free 0, spawn 0 1 1, locked 0 1, poll 0 1 0, spawn 0 2 2, end 0", 0},
		{"free 0, locked 0 1, poll 0 1 0, ready 3 4, preempt 3 4, dispatch 1 1", 0},
	} {
		f, e := replay.Stands(p, 3, sample.Log(x.l)...)
		if len(f) != x.n || x.n > 0 && e != api.OK {
			t.Errorf("Stands(%s) is %v, %v", x.l, f, e)
		}
		if strings.HasSuffix(x.l, "fault 1 -1 140") && (f[3] != api.Frame{Code: 1, Pc: 1, R: [api.Regs]int64{3: 4}}) {
			t.Error(f)
		}
	}
}

// TestP183Long: a stand behind as many local instructions as there may be.
func TestP183Long(t *testing.T) {
	p := sample.Program(nil, nil, "set 1 -1, set 1 -1, set 0 21844, zero 0 6, add 0 1, jump 3, end")
	f, e := replay.Stands(p, 1, sample.Log("end 0")...)
	if e != api.OK || len(f) != 1 || f[0] != (api.Frame{Pc: 6, R: [api.Regs]int64{1: -1}}) {
		t.Error(f, e)
	}
	refused(t, sample.Program(nil, nil, "jump 0"), 1, sample.Log("free 0, end 0"), 1, api.ErrMove)
}

// TestP184Beginnings: a beginning of a log that is right is right.
func TestP184Beginnings(t *testing.T) {
	for _, c := range logs(t, 120, 50) {
		for k := range len(c.g.l) + 1 {
			if at, e := replay.Check(c.p, c.most, c.g.l[:k]...); at != k || e != api.OK {
				t.Fatalf("of %+v: Check(%s) is %d, %v", c.p, lines(c.g.l[:k]), at, e)
			}
		}
	}
}

// TestP184Marks: marks are left out, and others put in, and the same is committed.
func TestP184Marks(t *testing.T) {
	for n, c := range logs(t, 300, 50) {
		bare := slices.DeleteFunc(slices.Clone(c.g.l), func(x api.Entry) bool { return !isCommit(x) })
		k := maker{from: n << 21}
		var full []api.Entry
		last := int64(0)
		for _, x := range append(bare, api.Entry{At: math.MaxInt64, Kind: api.MFree}) {
			for range k.below(4) {
				y := api.Entry{At: last, Kind: uint8(21 + k.below(6)), Worker: k.below(255)}
				if y.Kind != api.MFree {
					y.Task = k.below(32)
				}
				if y.Kind == api.MPoll {
					y.Set = api.Set(sample.Mix(k.step))
				}
				if k.below(2) == 0 {
					y.At = x.At
				}
				full, last = append(full, y), y.At
			}
			full, last = append(full, x), x.At
		}
		bare = bare[:len(bare):len(bare)]
		for _, l := range [][]api.Entry{bare, full} {
			m, e := replay.Run(c.p, c.most, l...)
			if at, wrong := replay.Check(c.p, c.most, l...); at != len(l) || wrong != api.OK || e != api.OK {
				t.Fatalf("of %+v: Check(%s) is %d, %v, Run %v", c.p, lines(l), at, wrong, e)
			}
			if state(m) != state(c.g.ahead[len(c.g.l)]) {
				t.Fatalf("of %+v: behind %s is %s", c.p, lines(l), state(m))
			}
			f, _ := replay.Stands(c.p, c.most, l...)
			if !slices.Equal(f, c.g.stands()) {
				t.Fatalf("of %+v: Stands(%s) is %v", c.p, lines(l), f)
			}
		}
	}
}

// TestLongLog: as long as one takes, all at once and in parts.
func TestLongLog(t *testing.T) {
	p := sample.Program([]int{8}, []api.Site{sample.Site(sample.Sends(0, 3), sample.Receives(0, 1, 2))}, "select 4 0, jump 0")
	part := sample.Log("locked 0 0, poll 0 0 1, send 0 0 0 0, locked 3 0, poll 3 0 3, poll 3 0 3, free 3, recv 0 0 1 0 1")
	l := slices.Repeat(part, 1000)
	for k := range l {
		l[k].At = int64(k / 3)
	}
	if at, is := replay.Polls(p, 1, l...); at != len(l) || !is {
		t.Error(at, is)
	}
	if f, e := replay.Stands(p, 1, l...); len(f) != 2000 || e != api.OK {
		t.Error(len(f), e)
	}
	m, e := replay.Run(p, 1, l...)
	first, _ := model.New(p, 1)
	if x, _ := m.Task(0); e != api.OK || x.Frame.R != [api.Regs]int64{2: 1, 4: 1} || state(m) == state(first) {
		t.Error(x, e)
	}
	l[7999-3].Set, l[7999-6].Set = 2, 0
	if at, is := replay.Polls(p, 1, l...); at != 7999-6 || is {
		t.Error(at, is)
	}
}
