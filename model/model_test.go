package model_test

import (
	"fmt"
	"math"
	"reflect"
	"slices"
	"strings"
	"testing"

	"tollbar/api"
	"tollbar/entry"
	"tollbar/model"
	"tollbar/prog"
	"tollbar/sample"
)

type registers = [api.Regs]int64

// What programs, and wrong entries, are made of.
var (
	program, crowd, broken = sample.Program, sample.Crowd, sample.Broken
	site, or               = sample.Site, sample.Or
	sends, receives        = sample.Sends, sample.Receives
	aside                  = sample.Aside
)

// both is a model that is held against a plain one.
type both struct {
	t *testing.T
	m *model.Model
	p *plain
}

// made answers a new model of p, with room for so many tasks.
func made(t *testing.T, p api.Program, most int) both {
	t.Helper()
	m, e := model.New(p, most)
	if m == nil || e != api.OK {
		t.Fatalf("New(%+v, %d) is %v, %v", p, most, m, e)
	}
	b := both{t, m, begun(p, most)}
	b.same()
	return b
}

func (b both) same() {
	b.t.Helper()
	same(b.t, b.m, b.p)
}

// copied answers another one, of copies.
func (b both) copied() both { return both{b.t, b.m.Copy(), b.p.copied()} }

// apply fails, unless Apply answers what it must, does it if it can be, and else changes nothing.
func (b both) apply(x api.Entry) api.Errno {
	b.t.Helper()
	want := b.p.judged(x)
	if e := b.m.Apply(x); e != want {
		b.t.Fatalf("of %+v, %s: Apply(%+v) is %v, not %v", b.p.p, b.p.state(), x, e, want)
	}
	if want == api.OK {
		b.p.apply(x)
	}
	return want
}

// line is that of x, without its At.
func line(x api.Entry) string {
	s, e := entry.Line(x)
	if e != api.OK {
		return fmt.Sprintf("%+v, that may not be", x)
	}
	_, s, _ = strings.Cut(s, " ")
	return s
}

// moves are the lines of the moves of a task, parted by commas.
func (b both) moves(task int) string {
	var l []string
	for _, x := range b.m.Moves(task) {
		l = append(l, line(x))
	}
	return strings.Join(l, ", ")
}

// may fails, unless the moves of a task are those of these lines.
func (b both) may(task int, lines string) {
	b.t.Helper()
	if got := b.moves(task); got != lines {
		b.t.Fatalf("of %+v, %s: Moves(%d) is %q, not %q", b.p.p, b.p.state(), task, got, lines)
	}
}

// play does moves of any tasks, by their lines, and looks at all behind each.
func (b both) play(lines ...string) both {
	b.t.Helper()
	for _, want := range lines {
		var l []api.Entry
		for task := range b.m.Tasks() {
			l = append(l, b.m.Moves(task)...)
		}
		k := slices.IndexFunc(l, func(x api.Entry) bool { return line(x) == want })
		if k < 0 {
			b.t.Fatalf("of %+v, %s: there is no move %q", b.p.p, b.p.state(), want)
		}
		b.apply(l[k])
		b.same()
	}
	return b
}

// goes lets a task do its only move, so many times.
func (b both) goes(task, times int) both {
	b.t.Helper()
	for range times {
		l := b.m.Moves(task)
		if len(l) != 1 {
			b.t.Fatalf("of %+v, %s: Moves(%d) is %v", b.p.p, b.p.state(), task, l)
		}
		b.apply(l[0])
	}
	b.same()
	return b
}

// place fails, unless a task is so.
func (b both) place(task int, state uint8, f api.Frame) {
	b.t.Helper()
	if x, is := b.m.Task(task); x != (api.Place{State: state, Frame: f}) || !is {
		b.t.Fatalf("of %+v: Task(%d) is %+v, %v", b.p.p, task, x, is)
	}
}

// waits fails, unless these wait at that channel.
func (b both) waits(ch int, send bool, l ...api.Wait) {
	b.t.Helper()
	if row := b.m.Chan(ch).Row(send); !slices.Equal(row, l) {
		b.t.Fatalf("of %+v: at %d wait %v, not %v", b.p.p, ch, row, l)
	}
}

// refused fails, unless there is no model of p with room for so many.
func refused(t *testing.T, p api.Program, most int) {
	t.Helper()
	if m, e := model.New(p, most); m != nil || e != api.ErrArg {
		t.Errorf("New(%+v, %d) is %v, %v", p, most, m, e)
	}
}

func TestP171New(t *testing.T) {
	good := []api.Program{program(nil, nil, "end"), sample.Plain(), sample.Full(), sample.Made(7)}
	for most := 1; most <= 32; most++ {
		for _, p := range good {
			b := made(t, p, most)
			b.place(0, api.TkRun, api.Frame{})
			if n := b.m.Tasks(); n != 1 {
				t.Errorf("%d tasks", n)
			}
		}
	}
	for _, most := range []int{0, -1, 33, 34, -32, 64, 255, 256, 257, 1 << 16, 1<<32 + 1, -1<<32 + 1, 1 << 62, math.MaxInt, math.MinInt, math.MinInt + 1} {
		for _, p := range append(good, broken()...) {
			refused(t, p, most)
		}
	}
	for _, p := range broken() {
		if _, _, e := prog.Check(p); e == api.OK {
			t.Errorf("%+v may be", p)
		}
		for _, most := range []int{1, 2, 32} {
			refused(t, p, most)
		}
	}
}

// TestP171NewKeepsNothing: a program that was handed in may be written to.
func TestP171NewKeepsNothing(t *testing.T) {
	again := func() api.Program {
		return program([]int{1, 0}, []api.Site{or(site(sends(0, 3), receives(1, 1, 2)))}, "spawn 1, select 4 0, end", "set 3 9, select 5 0, end")
	}
	p := again()
	b := made(t, p, 3)
	b.p.p = again()
	p.Caps[0], p.Caps[1] = 8, 8
	p.Sites[0].Cases[0], p.Sites[0].Default = api.Case{Ch: api.NoChan}, false
	p.Sites[0] = api.Site{}
	for _, c := range p.Codes {
		clear(c)
	}
	p.Codes[0] = nil
	b.same()
	b.play("spawn 0 1 1", "send 0 0 0 0", "end 0", "default 1", "end 1")
	if !prog.Same(again(), b.p.p) {
		t.Error("the program was changed")
	}
}

func TestP171Example(t *testing.T) {
	b := made(t, program([]int{0}, nil, "spawn 1, send 0 0, end", "recv 1 2 0, end"), 2)
	b.may(0, "spawn 0 1 1")
	b.play("spawn 0 1 1").may(0, "block 0")
	b.play("block 0").may(1, "meet 1 0 0 -1 -1 0 0")
	b.may(0, "")
	b.play("meet 1 0 0 -1 -1 0 0").place(1, api.TkRun, api.Frame{Code: 1, Pc: 1, R: registers{2: 1}})
	b.place(0, api.TkRun, api.Frame{Pc: 2})
	b.play("end 1", "end 0")
	if !b.m.Over() {
		t.Error("not over")
	}
}

// scene is how the channel 0 is, of that capacity: how many values are in its buffer, whether it is closed, how many wait there.
type scene struct {
	most, fill       int
	closed           bool
	senders, waiters int
}

// scenes are all that can come to be, with up to three that wait.
func scenes() (l []scene) {
	for _, most := range []int{0, 1, 2, 8} {
		for fill := range most + 1 {
			for _, closed := range []bool{false, true} {
				l = append(l, scene{most, fill, closed, 0, 0})
				for n := 1; n <= 3; n++ {
					if fill == most {
						l = append(l, scene{most, fill, closed, n, 0})
					}
					if fill == 0 {
						l = append(l, scene{most, fill, closed, 0, n})
					}
				}
			}
		}
	}
	return l
}

// set answers a model that is so, whose task 0 stands at last, with 77 in register 7 and 66 in register 6; values are from 100 on, in the buffer first.
func (s scene) set(t *testing.T, last string, sites ...api.Site) both {
	t.Helper()
	fill := "set 0 100, set 1 1, " + strings.Repeat("send 0 0, add 0 1, ", s.fill) + "end"
	c := "spawn 1, set 0 100, set 1 1"
	for k := range s.senders + s.waiters + s.fill {
		if k >= s.fill {
			c += ", spawn 2"
		}
		c += ", add 0 1"
	}
	b := made(t, program([]int{s.most}, sites, c+", spawn 3, set 7 77, set 6 66, "+last+", end", fill, map[bool]string{true: "send 0 0, end", false: "recv 4 5 0, end"}[s.senders > 0], map[bool]string{true: "close 0, end", false: "end"}[s.closed]), 6)
	b.goes(0, 1).goes(1, s.fill+1)
	for k := range s.senders + s.waiters {
		b.goes(0, 1).goes(2+k, 1)
	}
	return b.goes(0, 1).goes(2+s.senders+s.waiters, 2-map[bool]int{false: 1}[s.closed])
}

// closer is the task that closes.
func (s scene) closer() int { return 2 + s.senders + s.waiters }

// TestP171SendEach: what one may do that comes to send, wherever it comes to.
func TestP171SendEach(t *testing.T) {
	for _, s := range scenes() {
		b := s.set(t, "send 7 0")
		want := "block 0"
		switch {
		case s.closed:
			want = "fault 0 -1 140"
		case s.waiters > 0:
			want = "meet 0 2 0 -1 -1 77 1"
		case s.fill < s.most:
			want = "send 0 0 -1 77"
		}
		b.may(0, want)
		b.play(want)
		switch want {
		case "block 0":
			if l := b.m.Chan(0).Row(true); len(l) != s.senders+1 || l[s.senders] != (api.Wait{Task: 0, Case: -1, Val: 77}) {
				t.Fatalf("%+v: %v", s, l)
			}
		case "meet 0 2 0 -1 -1 77 1":
			if x, _ := b.m.Task(2); x.State != api.TkRun || x.Frame.R[4] != 77 || x.Frame.R[5] != 1 || len(b.m.Chan(0).Row(false)) != s.waiters-1 {
				t.Fatalf("%+v: %v", s, x)
			}
		case "send 0 0 -1 77":
			if l := b.m.Chan(0).Buffer(); len(l) != s.fill+1 || l[s.fill] != 77 {
				t.Fatalf("%+v: %v", s, l)
			}
		}
	}
}

// TestP171RecvEach: what one may do that comes to receive, wherever it comes to.
func TestP171RecvEach(t *testing.T) {
	for _, s := range scenes() {
		b := s.set(t, "recv 6 7 0")
		want, val, ok := "block 0", int64(100), int64(1)
		switch {
		case s.senders > 0 && s.most == 0:
			want = "meet 0 2 0 -1 -1 100 0"
		case s.senders > 0:
			want = fmt.Sprintf("refill 0 2 0 -1 -1 100 %d", 100+s.fill)
		case s.fill > 0:
			want = "recv 0 0 -1 100 1"
		case s.closed:
			want, val, ok = "recv 0 0 -1 0 0", 0, 0
		}
		b.may(0, want)
		b.play(want)
		x, _ := b.m.Task(0)
		if want == "block 0" {
			val, ok = 66, 77
			if l := b.m.Chan(0).Row(false); len(l) != s.waiters+1 || l[s.waiters] != (api.Wait{Task: 0, Case: -1}) {
				t.Fatalf("%+v: %v", s, l)
			}
		}
		if x.Frame.R[6] != val || x.Frame.R[7] != ok {
			t.Fatalf("%+v: %v", s, x)
		}
		if s.senders > 0 {
			if y, _ := b.m.Task(2); y.State != api.TkRun || y.Frame.R[4] != 0 || y.Frame.R[5] != 0 || y.Frame.Pc != 1 || len(b.m.Chan(0).Row(true)) != s.senders-1 || len(b.m.Chan(0).Buffer()) != s.fill {
				t.Fatalf("%+v: %v", s, y)
			}
		}
	}
}

// TestP171CloseEach: what one may do that comes to close, and what may be done then to those that wait.
func TestP171CloseEach(t *testing.T) {
	for _, s := range scenes() {
		b := s.set(t, "close 0")
		if s.closed {
			b.may(0, "fault 0 -1 141")
			b.play("fault 0 -1 141")
			continue
		}
		b.may(0, "close 0 0")
		b.play("close 0 0")
		for k := range s.senders {
			b.may(2+k, map[bool]string{true: "fault 2 0 140"}[k == 0])
		}
		for k := range s.waiters {
			for later := k + 1; later < s.waiters; later++ {
				b.may(2+later, "")
			}
			wake := fmt.Sprintf("wake %d 0 0 -1", 2+k)
			b.may(2+k, wake)
			b.play(wake)
			b.place(2+k, api.TkRun, api.Frame{Code: 2, Pc: 1, R: registers{int64(100 + k), 1}})
		}
		if c := b.m.Chan(0); !c.Closed() || len(c.Buffer()) != s.fill {
			t.Fatalf("%+v: %v", s, c.Buffer())
		}
	}
}

// TestP171SelectEach: by one case, by two of the one channel, with a default and without.
func TestP171SelectEach(t *testing.T) {
	for _, s := range scenes() {
		in, out := sends(0, 7), receives(0, 6, 7)
		for _, l := range [][]api.Case{{in}, {out}, {in, out}, {out, in}, {in, in}, {out, out}, {in, receives(-1, 6, 7), out, out, sends(-1, 7), in}} {
			for _, other := range []bool{false, true} {
				b := s.set(t, "select 3 0", api.Site{Cases: l, Default: other})
				for _, x := range b.m.Moves(0) {
					c := b.copied()
					c.apply(x)
					c.same()
				}
			}
		}
	}
}

// TestP171NoChan: nobody is served where there is no channel, whatever else there is.
func TestP171NoChan(t *testing.T) {
	for _, c := range []struct{ last, want string }{{"send 7 -1", "block 0"}, {"recv 6 7 -1", "block 0"}, {"close -1", "fault 0 -1 142"}, {"select 3 0", "block 0"}, {"select 3 1", "default 0"}} {
		for _, s := range scenes() {
			l := site(sends(-1, 1), receives(-1, 6, 7), receives(-1, 6, 7))
			b := s.set(t, c.last, l, or(l))
			b.may(0, c.want)
			b.play(c.want)
			if c.want == "block 0" {
				b.may(0, "")
				for _, send := range []bool{true, false} {
					for _, w := range b.m.Chan(0).Row(send) {
						if w.Task == 0 {
							t.Error(w)
						}
					}
				}
			}
		}
	}
	p := program(nil, nil, "send 0 -1, end") // not one channel
	made(t, p, 1).play("block 0").may(0, "")
}

// TestP171Spawn: up to the last room; each with the registers that its maker has then.
func TestP171Spawn(t *testing.T) {
	p := program(nil, nil, "set 2 5, add 3 2, spawn 1, jump 1", "set 2 1, end", "end")
	for most := 1; most <= 32; most++ {
		b := made(t, p, most)
		for n := 1; n < most; n++ {
			b.may(0, fmt.Sprintf("spawn 0 %d 1", n))
			b.goes(0, 1).place(n, api.TkRun, api.Frame{Code: 1, R: registers{2: 5, 3: int64(5 * n)}})
			b.place(0, api.TkRun, api.Frame{Pc: 3, R: registers{2: 5, 3: int64(5 * n)}})
		}
		if n := b.m.Tasks(); n != most {
			t.Errorf("%d tasks of %d", n, most)
		}
		if most > 1 { // who is over needs room, too
			b.play("end 1")
		}
		b.may(0, "fault 0 -1 143")
		b.play("fault 0 -1 143")
	}
	q := program(nil, nil, "spawn 0, spawn 7, end", "end", "end", "end", "end", "end", "end", "set 0 1, end")
	b := made(t, q, 4).play("spawn 0 1 0", "spawn 1 2 0", "spawn 0 3 7")
	b.may(1, "fault 1 -1 143")
	b.may(2, "fault 2 -1 143")
	b.play("end 0", "end 3").may(2, "fault 2 -1 143")
	b.play("fault 2 -1 143")
}

func TestP171End(t *testing.T) {
	b := made(t, program(nil, nil, "spawn 1, set 3 4, end", "jump 2, end, set 1 7, jump 1"), 2).play("spawn 0 1 1")
	b.may(0, "end 0")
	b.may(1, "end 1")
	b.play("end 1").place(1, api.TkOver, api.Frame{Code: 1, Pc: 1, R: registers{1: 7}})
	b.may(1, "")
	b.play("end 0").place(0, api.TkOver, api.Frame{Pc: 2, R: registers{3: 4}})
	b.may(0, "")
	for _, x := range []api.Entry{{Kind: api.CEnd}, {Kind: api.CEnd, Task: 1}, {Kind: api.CBlock}} {
		if e := b.apply(x); e != api.ErrMove {
			t.Error(e)
		}
	}
	b.same()
}

// TestP171Select: several cases that are ready, of three channels, rising, whatever they do there.
func TestP171Select(t *testing.T) {
	all := site(sends(0, 7), receives(1, 6, 5), receives(-1, 6, 5), receives(2, 4, 3), sends(1, 7), receives(0, 0, 0))
	p := program([]int{0, 1, 8}, []api.Site{all}, "spawn 1, spawn 2, spawn 3, set 7 77, select 2 0, end", "set 0 5, send 0 1, set 0 6, send 0 1, end", "recv 1 2 0, end", "set 0 -9, send 0 2, end")
	b := made(t, p, 4).goes(0, 3)
	b.may(0, "send 0 1 4 77")
	b.play("send 1 1 -1 5").may(0, "recv 0 1 1 5 1")
	b.play("block 1", "block 2", "send 3 2 -1 -9")
	b.may(0, "meet 0 2 0 0 -1 77 1, refill 0 1 1 1 -1 5 6, recv 0 2 3 -9 1")
	if s, is := b.m.Ready(0); s != 1<<0|1<<1|1<<3 || !is {
		t.Errorf("Ready is %b, %v", s, is)
	}
	c := b.copied().play("meet 0 2 0 0 -1 77 1")
	c.place(0, api.TkRun, api.Frame{Pc: 5, R: registers{7: 77}})
	c.place(2, api.TkRun, api.Frame{Code: 2, Pc: 1, R: registers{1: 77, 2: 1}})
	c = b.copied().play("refill 0 1 1 1 -1 5 6")
	c.place(0, api.TkRun, api.Frame{Pc: 5, R: registers{2: 1, 5: 1, 6: 5, 7: 77}})
	c.place(1, api.TkRun, api.Frame{Code: 1, Pc: 4, R: registers{0: 6}})
	if l := c.m.Chan(1).Buffer(); !slices.Equal(l, []int64{6}) {
		t.Error(l)
	}
	c = b.copied().play("recv 0 2 3 -9 1")
	c.place(0, api.TkRun, api.Frame{Pc: 5, R: registers{2: 3, 3: 1, 4: -9, 7: 77}})
}

// TestP171SelectDefault: the default is taken where no case is ready, and no earlier; its number is behind theirs.
func TestP171SelectDefault(t *testing.T) {
	for n := 1; n <= api.MaxCases; n++ {
		l := slices.Repeat([]api.Case{receives(0, 1, 2)}, n)
		for last := range n { // where the case stands that will be ready
			l[last] = receives(1, 1, 2)
			p := program([]int{0, 1}, []api.Site{or(site(l...))}, "spawn 1, select 3 0, end", "set 0 8, send 0 1, end")
			b := made(t, p, 2).goes(0, 1)
			b.may(0, "default 0")
			b.copied().play("default 0").place(0, api.TkRun, api.Frame{Pc: 2, R: registers{3: int64(n)}})
			b.goes(1, 1).may(0, fmt.Sprintf("recv 0 1 %d 8 1", last))
			l[last] = receives(0, 1, 2)
		}
	}
}

// TestP171SelectFaults: a case that sends on a closed channel is ready, each is a move, and no case is named.
func TestP171SelectFaults(t *testing.T) {
	p := program([]int{0, 1}, []api.Site{or(site(sends(0, 7), receives(1, 1, 2), sends(1, 7), receives(0, 3, 4), sends(0, 6)))}, "close 0, select 5 0, end")
	b := made(t, p, 1).goes(0, 1)
	b.may(0, "fault 0 -1 140, send 0 1 2 0, recv 0 0 3 0 0, fault 0 -1 140")
	if s, is := b.m.Ready(0); s != 1<<0|1<<2|1<<3|1<<4 || !is {
		t.Errorf("Ready is %b, %v", s, is)
	}
	b.copied().play("recv 0 0 3 0 0").place(0, api.TkRun, api.Frame{Pc: 2, R: registers{5: 3}})
	b.play("fault 0 -1 140").place(0, api.TkRun, api.Frame{Pc: 1})
}

// TestP171OneChannelTwice: one that waits there to send and to receive is served as the other one needs it.
func TestP171OneChannelTwice(t *testing.T) {
	p := program([]int{0}, []api.Site{site(sends(0, 7), receives(0, 1, 2), sends(0, 6), receives(0, 3, 4))}, "set 7 77, set 6 66, spawn 1, select 5 0, end", "spawn 2, spawn 3, spawn 4, send 7 0, end", "recv 1 2 0, end", "set 7 70, select 5 0, end", "close 0, end")
	b := made(t, p, 5).goes(0, 1).goes(1, 3)
	b.play("block 0")
	b.waits(0, true, api.Wait{Task: 0, Case: 0, Val: 77}, api.Wait{Task: 0, Case: 2, Val: 66})
	b.waits(0, false, api.Wait{Task: 0, Case: 1}, api.Wait{Task: 0, Case: 3})
	b.may(1, "meet 1 0 0 -1 1 77 1")
	b.may(2, "meet 2 0 0 -1 0 77 0")
	b.may(3, "meet 3 0 0 0 1 70 1, meet 3 0 0 1 0 77 0, meet 3 0 0 2 1 66 1, meet 3 0 0 3 0 77 0")
	for _, x := range []string{"meet 1 0 0 -1 1 77 1", "meet 2 0 0 -1 0 77 0", "meet 3 0 0 0 1 70 1", "meet 3 0 0 1 0 77 0", "meet 3 0 0 2 1 66 1", "meet 3 0 0 3 0 77 0"} {
		c := b.copied().play(x)
		c.waits(0, true)
		c.waits(0, false)
	}
	b.copied().play("meet 3 0 0 2 1 66 1").place(0, api.TkRun, api.Frame{Pc: 4, R: registers{1: 66, 2: 1, 5: 1, 6: 66, 7: 77}})
	b.copied().play("meet 3 0 0 3 0 77 0").place(0, api.TkRun, api.Frame{Pc: 4, R: registers{5: 0, 6: 66, 7: 77}})
	b.copied().play("meet 3 0 0 3 0 77 0").place(3, api.TkRun, api.Frame{Code: 3, Pc: 2, R: registers{3: 77, 4: 1, 5: 3, 6: 66, 7: 70}})
	b.play("close 4 0")
	b.may(0, "wake 0 4 0 1") // it waits to receive: it may be woken, its sending is no fault
	b.may(2, "meet 2 0 0 -1 0 77 0")
	b.play("wake 0 4 0 1").place(0, api.TkRun, api.Frame{Pc: 4, R: registers{5: 1, 6: 66, 7: 77}})
	b.waits(0, true)
	b.waits(0, false)
}

// TestP171Waits: one that waits by several cases, at several channels, is served by any, and gone from all then; the others stay.
func TestP171Waits(t *testing.T) {
	s := site(receives(0, 1, 2), sends(1, 7), receives(-1, 0, 0), receives(2, 3, 4), sends(1, 6))
	p := program([]int{0, 1, 8}, []api.Site{s}, "set 7 77, set 6 66, spawn 1, send 7 1, select 5 0, end", "set 7 70, spawn 2, select 5 0, end", "send 7 0, recv 6 6 1, send 7 2, close 2, end")
	b := made(t, p, 3).goes(0, 1).goes(1, 1)
	b.play("send 0 1 -1 77", "block 1", "block 0")
	full := func(c both) {
		c.waits(0, false, api.Wait{Task: 1, Case: 0}, api.Wait{Task: 0, Case: 0})
		c.waits(1, true, api.Wait{Task: 1, Case: 1, Val: 70}, api.Wait{Task: 1, Case: 4, Val: 66}, api.Wait{Task: 0, Case: 1, Val: 77}, api.Wait{Task: 0, Case: 4, Val: 66})
		c.waits(2, false, api.Wait{Task: 1, Case: 3}, api.Wait{Task: 0, Case: 3})
	}
	left := func(c both) {
		c.waits(0, false, api.Wait{Task: 0, Case: 0})
		c.waits(1, true, api.Wait{Task: 0, Case: 1, Val: 77}, api.Wait{Task: 0, Case: 4, Val: 66})
		c.waits(2, false, api.Wait{Task: 0, Case: 3})
	}
	full(b)
	b.may(2, "meet 2 1 0 -1 0 70 1")
	b.play("meet 2 1 0 -1 0 70 1").place(1, api.TkRun, api.Frame{Code: 1, Pc: 3, R: registers{1: 70, 2: 1, 5: 0, 6: 66, 7: 70}})
	left(b)
	b.may(2, "refill 2 0 1 -1 1 77 77")
	b.play("refill 2 0 1 -1 1 77 77").place(0, api.TkRun, api.Frame{Pc: 5, R: registers{5: 1, 6: 66, 7: 77}})
	for ch := range 3 {
		b.waits(ch, true)
		b.waits(ch, false)
	}
	b.may(2, "send 2 2 -1 70")
}

// TestP171Woken: whoever waits to receive at a closed channel is woken in turn, by each of its cases that is the first one, channel by channel.
func TestP171Woken(t *testing.T) {
	s := site(receives(2, 1, 2), receives(0, 1, 2), receives(2, 3, 4), receives(1, 3, 4))
	p := program([]int{0, 1, 8}, []api.Site{s}, "set 1 9, set 2 9, set 3 9, set 4 9, spawn 1, spawn 1, spawn 2, spawn 3, close 1, end", "select 5 0, end", "close 2, recv 1 2 2, end", "recv 3 4 0, close 0, end")
	b := made(t, p, 5).goes(0, 4).goes(1, 1).goes(2, 1)
	b.play("close 3 2")
	b.may(1, "wake 1 3 2 0") // of its two cases there the first one alone
	b.may(2, "")
	b.play("close 0 1")
	b.may(1, "wake 1 0 1 3, wake 1 3 2 0")
	b.may(3, "recv 3 2 -1 0 0") // who comes now is served at once
	c := b.copied().play("wake 1 0 1 3")
	c.place(1, api.TkRun, api.Frame{Code: 1, Pc: 1, R: registers{1: 9, 2: 9, 3: 0, 4: 0, 5: 3}})
	c.may(2, "wake 2 0 1 3, wake 2 3 2 0")
	c = b.copied().play("wake 1 3 2 0")
	c.place(1, api.TkRun, api.Frame{Code: 1, Pc: 1, R: registers{1: 0, 2: 0, 3: 9, 4: 9, 5: 0}})
	c.waits(0, false, api.Wait{Task: 2, Case: 1})
	c.play("block 4")
	c.waits(0, false, api.Wait{Task: 2, Case: 1}, api.Wait{Task: 4, Case: -1})
	c.may(2, "wake 2 0 1 3, wake 2 3 2 0")
	c.play("wake 2 3 2 0").may(4, "")
}

// TestP171ClosedOnSenders: of those that wait to send at a closed channel the first one faults, by who closed it, at each channel; till then they are received from.
func TestP171ClosedOnSenders(t *testing.T) {
	for most := range 3 {
		p := program([]int{most, most, most}, []api.Site{site(sends(2, 7), sends(1, 6), sends(1, 7), sends(0, 5))}, "set 5 55, set 6 66, set 7 77, spawn 1, spawn 2, spawn 2, spawn 3, close 1, recv 4 3 1, end", strings.Repeat("send 5 0, send 5 1, send 5 2, ", most)+"close 2, end", "select 2 0, end", "recv 1 2 2, close 0, end")
		b := made(t, p, 5).goes(0, 4).goes(1, 3*most).play("block 3", "block 2", "close 0 1")
		b.may(2, "")
		b.may(3, "fault 3 0 140")
		b.play("close 1 2").may(2, "")
		b.may(3, "fault 3 0 140, fault 3 1 140") // channel by channel
		b.copied().play("fault 3 1 140").place(3, api.TkWait, api.Frame{Code: 2, R: registers{5: 55, 6: 66, 7: 77}})
		taken := map[bool]string{true: "meet 4 3 2 -1 0 77 0", false: "refill 4 3 2 -1 0 55 77"}[most == 0]
		b.may(4, taken)
		b.play(taken).may(3, "end 3")
		b.may(2, "fault 2 0 140, fault 2 1 140")
		b.play("close 4 0").may(2, "fault 2 4 140, fault 2 0 140, fault 2 1 140")
		b.may(0, map[bool]string{true: "meet 0 2 1 -1 1 66 0", false: "refill 0 2 1 -1 1 55 66"}[most == 0])
		b.goes(0, 1).may(2, "end 2")
	}
}

// TestP171OneCloser: one that closed two channels; there are two moves that are one and the same.
func TestP171OneCloser(t *testing.T) {
	p := program([]int{0, 0}, []api.Site{site(sends(0, 7), sends(1, 7))}, "spawn 1, close 1, close 0, end", "select 2 0, end")
	b := made(t, p, 2).goes(0, 1).goes(1, 1).goes(0, 2)
	b.may(1, "fault 1 0 140, fault 1 0 140")
	b.play("fault 1 0 140")
}

// counting is a code 0 that does sets + 2 + 3 n local instructions, and ends then.
func counting(sets int, n int64, last string) api.Program {
	c := strings.Repeat("set 1 -1, ", sets) + fmt.Sprintf("set 0 %d, zero 0 %d, add 0 1, jump %d, %s", n, sets+4, sets+1, last)
	return program([]int{0}, []api.Site{site(receives(0, 1, 2))}, c, "end", "jump 0")
}

// TestP171Local: as many local instructions as there may be, and one more.
func TestP171Local(t *testing.T) {
	b := made(t, counting(2, 21844, "select 3 0, end"), 1)
	b.may(0, "block 0")
	if f, e := b.m.Stand(0); f != (api.Frame{Pc: 6, R: registers{1: -1}}) || e != api.OK {
		t.Error(f, e)
	}
	if _, is := b.m.Ready(0); !is {
		t.Error("no select")
	}
	b.place(0, api.TkRun, api.Frame{})
	b.goes(0, 1).place(0, api.TkWait, api.Frame{Pc: 6, R: registers{1: -1}})
	for _, p := range []api.Program{counting(3, 21844, "select 3 0, end"), counting(1, 21845, "end"), program(nil, nil, "jump 0"), program(nil, nil, "set 0 1, jump 0")} {
		c := made(t, p, 1)
		c.may(0, "")
		if f, e := c.m.Stand(0); f != (api.Frame{}) || e != api.ErrLong {
			t.Error(f, e)
		}
		if s, is := c.m.Ready(0); s != 0 || is {
			t.Error(s, is)
		}
		for _, x := range []api.Entry{{Kind: api.CEnd}, {Kind: api.CBlock}, {Kind: api.CDone}} {
			if e := c.apply(x); e != api.ErrMove {
				t.Error(e)
			}
		}
		if c.m.Stuck() || c.m.Over() {
			t.Error("stuck or over")
		}
		c.same()
	}
}

// TestP171Endless: a task without a stand stands in nobody's way.
func TestP171Endless(t *testing.T) {
	b := made(t, program([]int{0}, nil, "spawn 2, spawn 1, recv 1 2 0, end", "send 0 0, end", "jump 0"), 3).goes(0, 2)
	b.may(1, "")
	b.play("block 0", "meet 2 0 0 -1 -1 0 1", "end 2", "end 0").may(1, "")
	b.place(1, api.TkRun, api.Frame{Code: 2})
	if b.m.Stuck() || b.m.Over() {
		t.Error("stuck or over")
	}
}

// TestP171At: whenever it is, it is the same move; but never ahead of the beginning.
func TestP171At(t *testing.T) {
	p := program([]int{1}, nil, "send 0 0, close 0, end")
	for _, at := range []int64{0, 1, 2, 1 << 31, 1 << 32, math.MaxInt64} {
		b := made(t, p, 1)
		for _, x := range []api.Entry{{At: at, Kind: api.CSend, Case: -1}, {At: at, Kind: api.CClose}, {Kind: api.CEnd, At: at}} {
			c := b.copied()
			for _, wrong := range []int64{-1, -2, math.MinInt64, math.MinInt64 + 1} {
				x.At = wrong
				if e := c.m.Apply(x); e != api.ErrArg {
					t.Errorf("Apply(%+v) is %v", x, e)
				}
			}
			c.same()
			x.At = at
			if e := b.apply(x); e != api.OK {
				t.Errorf("Apply(%+v) is %v", x, e)
			}
			b.same()
		}
	}
}

// TestP171Refused: which error comes first.
func TestP171Refused(t *testing.T) {
	may, wrong, mark, other := api.Entry{Kind: api.CClose}, api.Entry{Kind: api.CClose, Ch: 6}, api.Entry{Kind: api.MFree}, api.Entry{Kind: api.CEnd}
	p := program([]int{1}, nil, "close 0, close 0, end")
	b := made(t, p, 1)
	told := func(m *model.Model, l ...api.Errno) {
		t.Helper()
		for k, x := range []api.Entry{wrong, mark, other, may} {
			if e := m.Apply(x); e != l[k] {
				t.Errorf("Apply(%+v) is %v, not %v", x, e, l[k])
			}
		}
	}
	told(nil, api.ErrNil, api.ErrNil, api.ErrNil, api.ErrNil)
	told(b.m, api.ErrArg, api.ErrArg, api.ErrMove, api.OK)
	told(b.m, api.ErrArg, api.ErrArg, api.ErrMove, api.ErrMove)
	if e := b.m.Apply(api.Entry{Kind: api.CFault, Peer: -1, Code: api.FaultClose}); e != api.OK {
		t.Error(e)
	}
	told(b.m, api.ErrHalt, api.ErrHalt, api.ErrHalt, api.ErrHalt)
	for kind := range 256 {
		x := api.Entry{Kind: uint8(kind)}
		want := api.ErrMove
		if kind < api.CSend || kind >= api.CFault { // a CFault of no Code may not be
			want = api.ErrArg
		}
		if e := made(t, program(nil, nil, "spawn 0, end"), 2).m.Apply(x); e != want {
			t.Errorf("Apply(%+v) is %v, not %v", x, e, want)
		}
	}
}

// tried fails, unless each of these is answered as it must be; what is refused changes nothing.
func (b both) tried(l []api.Entry) {
	b.t.Helper()
	c := b.copied()
	for _, x := range l {
		if b.p.judged(x) == api.OK {
			d := b.copied()
			d.apply(x)
			d.same()
		} else {
			c.apply(x)
		}
	}
	c.same()
	b.same()
}

// wider are programs in which little can be, of each kind.
func wider() []api.Program {
	two := site(sends(0, 7), receives(1, 1, 2), sends(1, 6), receives(0, 3, 4))
	three := site(receives(0, 1, 2), sends(0, 7), receives(1, 3, 4))
	return []api.Program{
		program([]int{0}, nil, "spawn 1, send 0 0, end", "recv 1 2 0, end"),
		program([]int{1}, nil, "set 0 5, spawn 1, send 0 0, send 1 0, close 0, end", "spawn 2, recv 1 2 0, recv 3 4 0, end", "recv 5 6 0, end"),
		program([]int{0}, nil, "spawn 1, spawn 1, spawn 2, close 0, end", "recv 1 2 0, end", "recv 1 2 0, close 0, end"),
		program([]int{0}, nil, "set 0 3, spawn 1, spawn 1, spawn 2, close 0, end", "send 0 0, end", "recv 1 2 0, recv 3 4 0, end"),
		program([]int{2}, nil, "set 0 3, set 1 1, spawn 1, spawn 1, spawn 2, close 0, end", "send 0 0, add 0 1, send 0 0, end", "recv 1 2 0, recv 3 4 0, end"),
		program([]int{0, 0}, []api.Site{two}, "set 6 6, set 7 7, spawn 1, spawn 2, select 5 0, end", "select 5 0, end", "select 5 0, end"),
		program([]int{1, 0}, []api.Site{two, or(three)}, "set 6 6, set 7 7, spawn 1, spawn 2, select 5 0, end", "select 5 1, end", "select 5 0, close 0, end"),
		program([]int{0, 1}, []api.Site{three, or(two)}, "set 6 6, set 7 7, spawn 1, spawn 2, select 5 0, close 0, end", "select 5 1, select 5 0, end", "select 5 0, send 5 -1, end"),
		program([]int{1}, []api.Site{site(sends(0, 7), sends(0, 6), receives(-1, 0, 0))}, "set 6 6, set 7 7, spawn 1, spawn 1, select 5 0, close -1, end", "select 5 0, recv 1 2 0, end"),
		program(nil, nil, "spawn 0, spawn 1, end", "jump 0"),
		program([]int{0}, []api.Site{site(receives(0, 1, 2), sends(0, 7))}, "spawn 1, spawn 1, spawn 2, end", "set 7 4, select 3 0, end", "close 0, end"),
		program([]int{1}, nil, "send 0 0, spawn 0, recv 1 2 0, zero 2 0, end"),
	}
}

// states goes over all that a model of p can come to, up to so many.
func states(t *testing.T, p api.Program, room, most int) func(yield func(b both) bool) {
	return func(yield func(b both) bool) {
		first := made(t, p, room)
		known := map[string]bool{first.p.state(): true}
		for l := []both{first}; len(l) > 0; {
			b := l[0]
			l = l[1:]
			if !yield(b) {
				return
			}
			for _, x := range b.p.all() {
				c := b.copied()
				c.apply(x)
				if s := c.p.state(); !known[s] && len(known) < most {
					known[s] = true
					l = append(l, c)
				}
			}
		}
	}
}

// TestP171All: all that few tasks can come to, by the words.
func TestP171All(t *testing.T) {
	for k, p := range wider() {
		n := 0
		for b := range states(t, p, 4, 4000) {
			b.same()
			n++
		}
		if n < 8 {
			t.Errorf("program %d has %d states", k, n)
		}
	}
}

// TestP171OneFieldChanged: of all that each model can come to, each move, and each entry beside it.
func TestP171OneFieldChanged(t *testing.T) {
	for _, p := range wider() {
		for b := range states(t, p, 4, 35) {
			if b.p.endless() { // TestP171Local has these
				continue
			}
			for _, x := range b.p.all() {
				b.tried(aside(x))
			}
		}
	}
}

// family are all entries of each kind, of small numbers, that name no more than they may.
func family() (l []api.Entry) {
	l = append(l, api.Entry{})
	vals, few, cases := []int64{0, 4, 7}, []int{0, 1, 2, 3}, []int{-1, 0, 1, 2}
	for _, task := range few {
		for _, kind := range []uint8{api.CDone, api.CBlock, api.CEnd} {
			l = append(l, api.Entry{Kind: kind, Task: task})
		}
		for _, peer := range append(few, -1) {
			for _, code := range []api.Errno{140, 141, 142, 143} {
				l = append(l, api.Entry{Kind: api.CFault, Task: task, Peer: peer, Code: code})
			}
			for _, k := range cases {
				l = append(l, api.Entry{Kind: api.CSpawn, Task: task, Peer: peer, Case: k})
				for ch := range 2 {
					l = append(l, api.Entry{Kind: api.CWake, Task: task, Peer: peer, Ch: ch, Case: k})
				}
			}
		}
		for ch := range 2 {
			l = append(l, api.Entry{Kind: api.CClose, Task: task, Ch: ch})
			for _, k := range cases {
				for _, v := range vals {
					l = append(l, api.Entry{Kind: api.CSend, Task: task, Ch: ch, Case: k, Val: v}, api.Entry{Kind: api.CRecv, Task: task, Ch: ch, Case: k, Val: v}, api.Entry{Kind: api.CRecv, Task: task, Ch: ch, Case: k, Val: v, Ok: true})
					for _, peer := range few {
						for _, other := range cases {
							x := api.Entry{Kind: api.CMeet, Task: task, Peer: peer, Ch: ch, Case: k, PeerCase: other, Val: v}
							l = append(l, x)
							x.Ok = true
							l = append(l, x)
							for _, w := range vals {
								l = append(l, api.Entry{Kind: api.CRefill, Task: task, Peer: peer, Ch: ch, Case: k, PeerCase: other, Val: v, Val2: w})
							}
						}
					}
				}
			}
		}
	}
	return l
}

// TestP174NothingElse: of all entries of small numbers just those can be done that are moves; these are all there are, where no value is another one.
func TestP174NothingElse(t *testing.T) {
	all := family()
	for _, p := range []api.Program{wider()[0], wider()[2], wider()[10], wider()[11]} {
		for b := range states(t, p, 4, 12) {
			n := 0
			for _, x := range all {
				c := b
				if b.p.choice(x) != nil {
					n++
					c = b.copied()
				}
				c.apply(x)
			}
			b.same()
			known := map[api.Entry]bool{}
			for _, x := range b.p.all() {
				known[x] = true
			}
			if n != len(known) {
				t.Errorf("of %+v, %s: %d of %d moves", p, b.p.state(), n, len(known))
			}
		}
	}
}

// endless is whether a task runs that has no stand.
func (p *plain) endless() bool {
	for task := range p.tasks {
		if _, e := p.stand(task); e == api.ErrLong {
			return true
		}
	}
	return false
}

// walk does moves of b, one behind the other, as n tells them, up to so many; few, where one looks long for a stand that there is none.
func (b both) walk(n, most int, do func(k int)) {
	b.t.Helper()
	endless := 0
	for k := range most {
		do(k)
		l := b.p.all()
		if b.p.endless() {
			endless++
		}
		if len(l) == 0 || endless > 2 {
			return
		}
		x := l[sample.Mix(n*most+k)%uint64(len(l))]
		if x.Kind == api.CFault { // it ends all: rather another one, if there is one
			x = l[sample.Mix(n*most+k+7)%uint64(len(l))]
		}
		b.apply(x)
	}
}

// TestLongWalks: many programs, of this kind and of that, as moves come.
func TestLongWalks(t *testing.T) {
	kinds := map[uint8]int{}
	for n := range 450 {
		for _, p := range []api.Program{crowd(n), sample.Made(n)} {
			b := made(t, p, 1+n%9)
			b.walk(n, 90, func(int) {
				b.same()
				for _, x := range b.p.all() {
					kinds[x.Kind]++
				}
			})
		}
	}
	for kind := uint8(1); kind <= api.Commits; kind++ {
		if kinds[kind] < 30 {
			t.Errorf("kind %d: %d moves", kind, kinds[kind])
		}
	}
}

// TestWalksAside: the same, with the entries beside each move, and what is refused.
func TestWalksAside(t *testing.T) {
	for n := range 40 {
		b := made(t, crowd(n), 6)
		b.walk(n, 40, func(k int) {
			for _, x := range b.p.all() {
				if (k+n)%4 == 0 {
					b.tried(aside(x))
				}
			}
		})
	}
}

func TestP172Task(t *testing.T) {
	b := made(t, program([]int{0}, nil, "set 0 3, spawn 1, set 0 4, recv 1 2 0, set 0 5, end", "set 0 9, end"), 3)
	b.place(0, api.TkRun, api.Frame{})
	b.goes(0, 1).place(0, api.TkRun, api.Frame{Pc: 2, R: registers{3}}) // not where its local instructions come to
	b.place(1, api.TkRun, api.Frame{Code: 1, R: registers{3}})
	if n := b.m.Tasks(); n != 2 {
		t.Error(n)
	}
	b.goes(0, 1).place(0, api.TkWait, api.Frame{Pc: 3, R: registers{4}})
	b.goes(1, 1).place(1, api.TkOver, api.Frame{Code: 1, Pc: 1, R: registers{9}})
	for _, task := range whom(0)[2:] {
		if x, is := b.m.Task(task); x != (api.Place{}) || is {
			t.Errorf("Task(%d) is %v, %v", task, x, is)
		}
	}
	if x, is := b.m.Task(2); x != (api.Place{}) || is {
		t.Error(x, is)
	}
}

func TestP172Stand(t *testing.T) {
	b := made(t, program([]int{0}, nil, "set 0 3, spawn 1, set 0 4, recv 1 2 0, set 0 5, end", "set 0 9, end"), 3)
	stands := func(task int, f api.Frame, e api.Errno) {
		t.Helper()
		if g, got := b.m.Stand(task); g != f || got != e {
			t.Errorf("Stand(%d) is %v, %v", task, g, got)
		}
	}
	stands(0, api.Frame{Pc: 1, R: registers{3}}, api.OK)
	stands(1, api.Frame{}, api.ErrNone)
	b.goes(0, 1)
	stands(0, api.Frame{Pc: 3, R: registers{4}}, api.OK)
	stands(1, api.Frame{Code: 1, Pc: 1, R: registers{9}}, api.OK)
	b.goes(0, 1)
	stands(0, api.Frame{}, api.ErrNone)
	b.goes(1, 1)
	stands(1, api.Frame{}, api.ErrNone)
	for _, task := range whom(0)[2:] {
		stands(task, api.Frame{}, api.ErrNone)
	}
}

func TestP172Ready(t *testing.T) {
	full := site(slices.Repeat([]api.Case{receives(0, 1, 2)}, 6)...)
	mixed := site(receives(-1, 0, 0), sends(0, 0), receives(1, 1, 2), sends(-1, 0), receives(0, 1, 2), sends(1, 0))
	p := program([]int{0, 8}, []api.Site{full, or(mixed)}, "spawn 1, send 0 1, set 3 7, select 3 1, select 3 0, end", "recv 4 5 1, select 3 0, end")
	b := made(t, p, 2)
	ready := func(task int, s api.Set, is bool) {
		t.Helper()
		if got, at := b.m.Ready(task); got != s || at != is {
			t.Errorf("Ready(%d) is %b, %v", task, got, at)
		}
	}
	ready(0, 0, false)
	b.goes(0, 1)
	ready(0, 0, false)
	ready(1, 0, false)
	b.goes(0, 1)
	ready(0, 1<<2|1<<5, true)
	b.goes(1, 1)
	ready(1, 0, true) // at a select, of which no case is ready
	ready(0, 1<<5, true)
	b.play("block 1")
	ready(1, 0, false)
	ready(0, 1<<1|1<<5, true)
	b.play("send 0 1 5 0")
	ready(0, 0, true)
	b.play("block 0")
	for _, task := range whom(2) {
		ready(task, 0, false)
	}
	q := program([]int{0}, []api.Site{full}, "close 0, select 3 0, end")
	b = made(t, q, 1).goes(0, 1)
	ready(0, 63, true)
}

// TestP172BehindFault: who is where is told as it was, though nothing may be done any more.
func TestP172BehindFault(t *testing.T) {
	p := program([]int{0, 1}, []api.Site{site(sends(1, 0))}, "spawn 1, spawn 2, spawn 3, set 0 3, close -1, end", "recv 1 2 0, end", "set 5 5, select 3 0, end", "end")
	b := made(t, p, 4).goes(0, 3).play("block 1", "end 3")
	b.play("fault 0 -1 142")
	b.place(0, api.TkRun, api.Frame{Pc: 3})
	if f, e := b.m.Stand(0); f != (api.Frame{Pc: 4, R: registers{3}}) || e != api.OK {
		t.Error(f, e)
	}
	b.place(1, api.TkWait, api.Frame{Code: 1})
	b.place(3, api.TkOver, api.Frame{Code: 3})
	if s, is := b.m.Ready(2); s != 1 || !is {
		t.Error(s, is)
	}
	b.waits(0, false, api.Wait{Task: 1, Case: -1})
	for task := range 5 {
		b.may(task, "")
	}
	if b.m.Stuck() || b.m.Over() || b.m.Tasks() != 4 {
		t.Error("stuck or over")
	}
}

// TestP173Fault: each CFault, and what is answered behind it.
func TestP173Fault(t *testing.T) {
	for _, c := range []struct {
		p    api.Program
		go0  int
		x    api.Entry
		most int
	}{
		{program([]int{0}, nil, "close 0, send 0 0, end"), 1, api.Entry{Kind: 11, Peer: -1, Code: api.FaultSend}, 1},
		{program([]int{0}, nil, "close 0, close 0, end"), 1, api.Entry{Kind: 11, Peer: -1, Code: api.FaultClose}, 1},
		{program([]int{0}, nil, "close -1, end"), 0, api.Entry{Kind: 11, Peer: -1, Code: api.FaultNil}, 1},
		{program([]int{0}, nil, "spawn 0, end"), 0, api.Entry{Kind: 11, Peer: -1, Code: api.FaultMany}, 1},
		{program([]int{0}, nil, "spawn 0, spawn 0, end"), 1, api.Entry{Kind: 11, Task: 0, Peer: -1, Code: api.FaultMany}, 2},
		{program([]int{0}, nil, "spawn 0, spawn 0, end"), 1, api.Entry{Kind: 11, Task: 1, Peer: -1, Code: api.FaultMany}, 2},
	} {
		b := made(t, c.p, c.most).goes(0, c.go0)
		if who, e := b.m.Fault(); who != -1 || e != api.OK {
			t.Error(who, e)
		}
		if e := b.apply(c.x); e != api.OK {
			t.Errorf("%+v: %v", c.x, e)
		}
		b.same()
		if who, e := b.m.Fault(); who != c.x.Task || e != c.x.Code {
			t.Error(who, e)
		}
		for _, x := range append(aside(c.x), api.Entry{Kind: api.CEnd}, c.x, api.Entry{}) {
			if e := b.m.Apply(x); e != api.ErrHalt {
				t.Errorf("Apply(%+v) is %v", x, e)
			}
		}
		b.same()
	}
	p := program([]int{0}, nil, "spawn 1, spawn 1, spawn 2, end", "send 0 0, end", "close 0, end")
	b := made(t, p, 4).goes(0, 3).play("block 2", "block 1", "close 3 0", "fault 2 3 140")
	if who, e := b.m.Fault(); who != 2 || e != api.FaultSend || len(b.m.Moves(0)) != 0 {
		t.Error(who, e)
	}
}

// TestP173Ends: stuck, over, neither.
func TestP173Ends(t *testing.T) {
	b := made(t, program([]int{0, 0}, nil, "spawn 1, spawn 2, recv 1 2 0, end", "recv 1 2 0, end", "close 1, end"), 3)
	ends := func(stuck, over bool) {
		t.Helper()
		if b.m.Stuck() != stuck || b.m.Over() != over {
			t.Errorf("of %s: Stuck is %v, Over is %v", b.p.state(), b.m.Stuck(), b.m.Over())
		}
	}
	ends(false, false)
	b.goes(0, 2).play("block 0", "block 1", "close 2 1")
	ends(false, false)
	b.play("end 2")
	ends(true, false)
	b = made(t, program([]int{0}, nil, "spawn 1, spawn 2, recv 1 2 0, end", "recv 1 2 0, end", "close 0, end"), 3)
	b.goes(0, 2).play("block 0", "block 1", "close 2 0", "end 2")
	ends(false, false) // nobody runs, but one can be woken
	b.play("wake 0 2 0 -1", "end 0")
	ends(false, false)
	b.play("wake 1 2 0 -1", "end 1")
	ends(false, true)
	b = made(t, program([]int{0}, nil, "spawn 1, send 0 0, end", "close 0, end"), 2)
	b.goes(0, 1).play("block 0", "close 1 0", "end 1")
	ends(false, false) // nobody runs, but one can fault
	b.play("fault 0 1 140")
	ends(false, false)
	b = made(t, program(nil, nil, "spawn 0, end"), 2).play("spawn 0 1 0", "end 0")
	ends(false, false)
	b.play("fault 1 -1 143")
	ends(false, false)
	b = made(t, program(nil, nil, "end"), 1)
	ends(false, false)
	b.play("end 0")
	ends(false, true)
}

// TestP173Chan: what is told of a channel is a copy, and may be written to.
func TestP173Chan(t *testing.T) {
	p := program([]int{0, 1, 8}, []api.Site{site(sends(1, 0), receives(0, 1, 2))}, "set 0 5, spawn 1, send 0 1, send 0 2, send 0 2, close 2, select 3 0, end", "select 3 0, end")
	b := made(t, p, 2).goes(0, 5).play("block 1", "block 0")
	for range 3 {
		for ch := range 3 {
			c := b.m.Chan(ch)
			for _, send := range []bool{true, false} {
				for k := range c.Row(send) {
					c.Row(send)[k] = api.Wait{Task: 9}
				}
				c.Serve(send, 99)
				c.Serve(send, 98)
				c.Wait(send, api.Wait{Task: 7, Case: 3})
			}
			for k := range c.Buffer() {
				c.Buffer()[k] = -1
			}
			c.Close()
			c.Drop(0)
			b.same()
		}
	}
	for _, ch := range []int{-1, 3, -2, 4, 6, 256, 1 << 32, -1 << 32, math.MaxInt, math.MinInt} {
		if c := b.m.Chan(ch); c != nil {
			t.Errorf("Chan(%d) is %v", ch, c)
		}
	}
	if c := made(t, program(nil, nil, "end"), 1).m.Chan(0); c != nil {
		t.Error(c)
	}
}

// TestP173AnswersAreNew: lists and frames that were told may be written to.
func TestP173AnswersAreNew(t *testing.T) {
	for n := range 60 {
		b := made(t, crowd(n), 5)
		b.walk(n, 30, func(int) {
			for task := range b.m.Tasks() {
				l := b.m.Moves(task)
				for k := range l {
					l[k] = api.Entry{Kind: 99, Task: -5}
				}
				_ = append(l, api.Entry{})
				x, _ := b.m.Task(task)
				x.Frame.R[3], x.State = 1234, 77
				f, _ := b.m.Stand(task)
				f.R[0], f.Pc = 4321, 9
			}
			b.same()
		})
	}
}

// TestP173Copy: what is done to one changes nothing of the other one, and both go on alike.
func TestP173Copy(t *testing.T) {
	for n := range 90 {
		p := []api.Program{crowd(n), sample.Made(n)}[n%2]
		b := made(t, p, 1+n%6)
		b.walk(n, 40, func(k int) {
			c, d := b.copied(), b.copied()
			c.walk(n+k, 6, func(int) {})
			d.walk(n+k+1, 6, func(int) {})
			e := c.copied()
			c.walk(n+k+2, 6, func(int) {})
			b.same()
			c.same()
			d.same()
			e.same()
		})
	}
}

// TestP173CopyOfAll: of one that stands still, one that is stuck, one that is over, and one that has closed channels and much room.
func TestP173CopyOfAll(t *testing.T) {
	for _, b := range []both{
		made(t, program(nil, nil, "close -1, end"), 1).goes(0, 1),
		made(t, program(nil, nil, "send 0 -1, end"), 1).goes(0, 1),
		made(t, program(nil, nil, "end"), 1).goes(0, 1),
		made(t, program([]int{0, 1}, nil, "spawn 1, close 1, close 0, end", "recv 1 2 0, end"), 32).goes(0, 1).goes(1, 1).goes(0, 2),
	} {
		c := b.copied()
		c.same()
		if c.m == b.m {
			t.Error("the same one")
		}
		for _, x := range append(b.p.all(), api.Entry{Kind: api.CEnd}) {
			d := c.copied()
			d.apply(x)
			d.same()
		}
		b.same()
	}
}

// TestNil: of none.
func TestNil(t *testing.T) {
	var m *model.Model
	for _, x := range []api.Entry{{}, {Kind: api.CEnd}, {Kind: api.MFree}, {Kind: api.CFault, Peer: -1, Code: api.FaultMany}} {
		if e := m.Apply(x); e != api.ErrNil {
			t.Error(e)
		}
	}
	for _, task := range whom(1) {
		if l := m.Moves(task); len(l) != 0 {
			t.Error(l)
		}
		if x, is := m.Task(task); x != (api.Place{}) || is {
			t.Error(x, is)
		}
		if f, e := m.Stand(task); f != (api.Frame{}) || e != api.ErrNil {
			t.Error(f, e)
		}
		if s, is := m.Ready(task); s != 0 || is {
			t.Error(s, is)
		}
		if c := m.Chan(task); c != nil {
			t.Error(c)
		}
	}
	if who, e := m.Fault(); who != -1 || e != api.OK {
		t.Error(who, e)
	}
	if m.Tasks() != 0 || m.Stuck() || m.Over() || m.Copy() != nil {
		t.Error(m.Tasks(), m.Stuck(), m.Over(), m.Copy())
	}
}

// holds fails, unless what follows holds of m.
func holds(t *testing.T, m *model.Model) {
	t.Helper()
	_, fault := m.Fault()
	for task := range m.Tasks() {
		l := m.Moves(task)
		if _, e := m.Stand(task); e == api.OK && fault == api.OK && len(l) == 0 {
			t.Fatalf("task %d runs, and has no move", task)
		}
		for _, x := range l {
			if x.At != 0 || x.Task != task || entry.Check(x) != api.OK || !entry.Commit(x.Kind) {
				t.Fatalf("task %d has the move %+v", task, x)
			}
			if e := m.Copy().Apply(x); e != api.OK {
				t.Fatalf("%+v is %v", x, e)
			}
		}
	}
	for ch := 0; m.Chan(ch) != nil; ch++ {
		c := m.Chan(ch)
		for _, s := range c.Row(true) {
			for _, r := range c.Row(false) {
				if s.Task != r.Task {
					t.Fatalf("at %d wait %v to send, and %v to receive", ch, s, r)
				}
			}
			if len(c.Buffer()) != c.Cap() {
				t.Fatalf("at %d waits %v to send, with %v of %d", ch, s, c.Buffer(), c.Cap())
			}
		}
	}
}

// TestP174All: of all that few tasks can come to.
func TestP174All(t *testing.T) {
	for _, p := range wider() {
		for b := range states(t, p, 4, 1500) {
			holds(t, b.m)
		}
	}
	for n := range 40 {
		for b := range states(t, crowd(n), 5, 120) {
			holds(t, b.m)
		}
	}
}

// TestP174Walks: of many programs, as moves come, behind the fault too.
func TestP174Walks(t *testing.T) {
	for n := range 400 {
		for _, p := range []api.Program{crowd(1000 + n), sample.Made(n)} {
			m, e := model.New(p, 1+n%12)
			if e != api.OK {
				t.Fatal(e)
			}
			for k, endless := 0, 0; k < 60 && endless < 3; k++ {
				holds(t, m)
				var l []api.Entry
				runs := 0
				for task := range m.Tasks() {
					l = append(l, m.Moves(task)...)
					switch _, e := m.Stand(task); e {
					case api.OK:
						runs++
					case api.ErrLong:
						endless++
					}
				}
				if len(l) == 0 {
					if _, e := m.Fault(); e == api.OK && runs > 0 {
						t.Fatalf("of %+v: no moves", p)
					}
					break
				}
				x := l[sample.Mix(n*60+k)%uint64(len(l))]
				x.At = int64(k)
				if e := m.Apply(x); e != api.OK {
					t.Fatalf("of %+v: %+v is %v", p, x, e)
				}
			}
		}
	}
}

// TestSameAgain: the same moves come to the same, in whichever model they are done, whoever asks between.
func TestSameAgain(t *testing.T) {
	for n := range 60 {
		p := crowd(n)
		var all []seen
		for range 2 {
			b := made(t, p, 6)
			b.walk(n, 50, func(k int) {
				if k%2 == len(all)%2 {
					look(b.m)
				}
			})
			all = append(all, look(b.m))
		}
		if !reflect.DeepEqual(all[0], all[1]) {
			t.Fatalf("of %+v: %+v, and %+v", p, all[0], all[1])
		}
	}
}
