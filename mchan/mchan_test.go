package mchan_test

import (
	"math"
	"slices"
	"testing"

	"tollbar/api"
	"tollbar/mchan"
	"tollbar/sample"
)

// both are to send, and to receive.
var both = []bool{true, false}

// edges are values at which one could go wrong.
func edges() []int64 {
	return []int64{0, 1, -1, 7, 1 << 31, 1 << 32, -1 << 32, 1<<53 + 1, math.MaxInt64, math.MaxInt64 - 1, math.MinInt64, math.MinInt64 + 1}
}

// numbers are some for Task and Case: the document binds neither; many have the low bits of another one.
func numbers() []int {
	return []int{0, 1, -1, 2, -2, 5, 31, 32, 255, 256, 257, 1 << 16, 1 << 31, 1<<32 - 1, 1 << 32, 1<<32 + 1, -1 << 32, -1<<32 + 1, 1 << 62, math.MaxInt, math.MinInt}
}

// plain is a channel as the chapter's words tell it.
type plain struct {
	most       int
	buf        []int64
	closed     bool
	send, recv []api.Wait
}

func (p *plain) row(send bool) *[]api.Wait {
	if send {
		return &p.send
	}
	return &p.recv
}

// what is the first that is so, of the chapter's rows of words.
func (p *plain) what(send bool) uint8 {
	words := []struct {
		is bool
		do uint8
	}{
		{send && p.closed, api.DoFault},
		{send && len(p.recv) > 0, api.DoMeet},
		{send && len(p.buf) < p.most, api.DoBuffer},
		{send, api.DoWait},
		{len(p.send) > 0 && p.most == 0, api.DoMeet},
		{len(p.send) > 0, api.DoRefill},
		{len(p.buf) > 0, api.DoBuffer},
		{p.closed, api.DoZero},
		{true, api.DoWait},
	}
	for _, w := range words {
		if w.is {
			return w.do
		}
	}
	return 0
}

// out takes the first value out of the buffer; 0, if it is empty.
func (p *plain) out() (v int64) {
	if len(p.buf) > 0 {
		v, p.buf = p.buf[0], slices.Clone(p.buf[1:])
	}
	return v
}

func (p *plain) serve(send bool, val int64) (api.Got, api.Errno) {
	g := api.Got{What: p.what(send)}
	switch g.What {
	case api.DoFault, api.DoWait:
		return api.Got{}, api.ErrType
	case api.DoMeet:
		g.Peer, _ = p.take(!send)
		g.Val, g.Ok = val, true
		if !send {
			g.Val = g.Peer.Val
		}
	case api.DoRefill:
		g.Val, g.Ok = p.out(), true
		g.Peer, _ = p.take(true)
		g.Val2 = g.Peer.Val
		p.buf = append(p.buf, g.Val2)
	case api.DoBuffer:
		g.Val, g.Ok = val, true
		if send {
			p.buf = append(p.buf, val)
		} else {
			g.Val = p.out()
		}
	}
	return g, api.OK
}

func (p *plain) wait(send bool, w api.Wait) api.Errno {
	for _, x := range *p.row(send) {
		if x.Task == w.Task && x.Case == w.Case {
			return api.ErrHave
		}
	}
	*p.row(send) = append(*p.row(send), w)
	return api.OK
}

func (p *plain) drop(task int) (n int) {
	for _, send := range both {
		var l []api.Wait
		for _, w := range *p.row(send) {
			if w.Task != task {
				l = append(l, w)
			}
		}
		n += len(*p.row(send)) - len(l)
		*p.row(send) = l
	}
	return n
}

func (p *plain) shut() api.Errno {
	if p.closed {
		return api.ErrHave
	}
	p.closed = true
	return api.OK
}

func (p *plain) take(send bool) (api.Wait, api.Errno) {
	l := *p.row(send)
	if len(l) == 0 {
		return api.Wait{}, api.ErrNone
	}
	*p.row(send) = slices.Clone(l[1:])
	return l[0], api.OK
}

func (p *plain) copied() *plain {
	return &plain{p.most, slices.Clone(p.buf), p.closed, slices.Clone(p.send), slices.Clone(p.recv)}
}

// made answers a channel of that capacity, and the plain one.
func made(t *testing.T, most int) (*mchan.Chan, *plain) {
	t.Helper()
	c, e := mchan.New(most)
	if c == nil || e != api.OK {
		t.Fatalf("New(%d) is %v, %v", most, c, e)
	}
	return c, &plain{most: most}
}

// built answers a channel that is as p, whose buffer was gone through by so many values ahead.
func built(t *testing.T, p *plain, by int) *mchan.Chan {
	t.Helper()
	c, q := made(t, p.most)
	for k := range by {
		if p.most > 0 {
			serve(t, c, q, true, int64(-k-1))
			serve(t, c, q, false, 0)
		}
	}
	for _, v := range p.buf {
		serve(t, c, q, true, v)
	}
	for _, send := range both {
		for _, w := range *p.row(send) {
			wait(t, c, q, send, w)
		}
	}
	if p.closed {
		shut(t, c, q)
	}
	same(t, c, p)
	return c
}

// same fails, unless all that c tells is as p has it.
func same(t *testing.T, c *mchan.Chan, p *plain) {
	t.Helper()
	for _, send := range both {
		row := *p.row(send)
		if l := c.Row(send); !slices.Equal(l, row) {
			t.Fatalf("of %+v: Row(%v) is %v", *p, send, l)
		}
		first := append(slices.Clone(row), api.Wait{})[0]
		if w, is := c.First(send); w != first || is != (len(row) > 0) {
			t.Fatalf("of %+v: First(%v) is %v, %v", *p, send, w, is)
		}
		if do := c.What(send); do != p.what(send) {
			t.Fatalf("of %+v: What(%v) is %d, not %d", *p, send, do, p.what(send))
		}
	}
	if l := c.Buffer(); !slices.Equal(l, p.buf) {
		t.Fatalf("of %+v: Buffer is %d", *p, l)
	}
	if c.Closed() != p.closed || c.Cap() != p.most {
		t.Fatalf("of %+v: Closed is %v, Cap is %d", *p, c.Closed(), c.Cap())
	}
}

// serve does it to both, and fails unless they answer the same.
func serve(t *testing.T, c *mchan.Chan, p *plain, send bool, val int64) (api.Got, api.Errno) {
	t.Helper()
	ahead := p.copied()
	g, e := c.Serve(send, val)
	if want, wrong := p.serve(send, val); g != want || e != wrong {
		t.Fatalf("of %+v: Serve(%v, %d) is %+v, %v, not %+v, %v", *ahead, send, val, g, e, want, wrong)
	}
	return g, e
}

// wait does it to both, and fails unless they answer the same.
func wait(t *testing.T, c *mchan.Chan, p *plain, send bool, w api.Wait) {
	t.Helper()
	ahead := p.copied()
	if e, want := c.Wait(send, w), p.wait(send, w); e != want {
		t.Fatalf("of %+v: Wait(%v, %v) is %v, not %v", *ahead, send, w, e, want)
	}
}

// drop does it to both, and fails unless they answer the same.
func drop(t *testing.T, c *mchan.Chan, p *plain, task int) {
	t.Helper()
	ahead := p.copied()
	if n, want := c.Drop(task), p.drop(task); n != want {
		t.Fatalf("of %+v: Drop(%d) is %d, not %d", *ahead, task, n, want)
	}
}

// shut does it to both, and fails unless they answer the same.
func shut(t *testing.T, c *mchan.Chan, p *plain) {
	t.Helper()
	ahead := p.copied()
	if e, want := c.Close(), p.shut(); e != want {
		t.Fatalf("of %+v: Close is %v, not %v", *ahead, e, want)
	}
}

// take does it to both, and fails unless they answer the same.
func take(t *testing.T, c *mchan.Chan, p *plain, send bool) {
	t.Helper()
	ahead := p.copied()
	w, e := c.Take(send)
	if want, wrong := p.take(send); w != want || e != wrong {
		t.Fatalf("of %+v: Take(%v) is %v, %v, not %v, %v", *ahead, send, w, e, want, wrong)
	}
}

// waits are n that wait, from that task on, no two of one task and case; some are of one task.
func waits(from, n int) (l []api.Wait) {
	for k := range n {
		l = append(l, api.Wait{Task: from + k - k%2, Case: k%2 - 1, Val: int64(from*100 + k)})
	}
	return l
}

// states are channels of each capacity, with each count of values, open and closed, with up to so many in each row.
func states(upTo int) (l []*plain) {
	for most := range api.MaxCap + 1 {
		for n := range most + 1 {
			var buf []int64
			for k := range n {
				buf = append(buf, int64(500+k))
			}
			for _, closed := range both {
				for s := range upTo + 1 {
					for r := range upTo + 1 {
						l = append(l, &plain{most, buf, closed, waits(1, s), waits(7, r)})
					}
				}
			}
		}
	}
	return l
}

// each does it to a channel of each state, whose buffers stand anywhere.
func each(t *testing.T, do func(c *mchan.Chan, p *plain)) {
	t.Helper()
	for k, p := range states(3) {
		do(built(t, p, k%17), p.copied())
	}
}

// wrong are capacities that none may have, from those beside on; the low bits of some are one's that one may have.
func wrong() []int {
	return []int{-1, 9, -2, -8, -9, 10, 16, 64, 255, 256, 264, 1 << 16, 1 << 31, 1 << 32, 1<<32 + 5, -1 << 32, -1<<32 + 5, 1 << 62, math.MaxInt, math.MinInt, math.MinInt + 8}
}

func TestP161New(t *testing.T) {
	for most := range 9 {
		c, p := made(t, most)
		same(t, c, p)
		d, q := made(t, most)
		wait(t, c, p, true, api.Wait{Task: 3})
		shut(t, c, p)
		same(t, c, p)
		same(t, d, q)
	}
	for _, most := range wrong() {
		if c, e := mchan.New(most); c != nil || e != api.ErrArg {
			t.Errorf("New(%d) is %v, %v", most, c, e)
		}
	}
}

// TestP161CapacityMost: each takes just so many values while nobody receives, and gives out just these.
func TestP161CapacityMost(t *testing.T) {
	for most := range 9 {
		c, p := made(t, most)
		for k := range most {
			if g, e := serve(t, c, p, true, int64(k)); g.What != api.DoBuffer || e != api.OK {
				t.Fatalf("capacity %d: value %d is %+v, %v", most, k, g, e)
			}
		}
		if g, e := c.Serve(true, 9); c.What(true) != api.DoWait || g != (api.Got{}) || e != api.ErrType {
			t.Fatalf("capacity %d: full: %d, %+v, %v", most, c.What(true), g, e)
		}
		same(t, c, p)
		for k := range most {
			if g, _ := serve(t, c, p, false, 0); g.Val != int64(k) {
				t.Fatalf("capacity %d: %+v, not %d", most, g, k)
			}
		}
		if c.What(false) != api.DoWait {
			t.Fatalf("capacity %d: empty: %d", most, c.What(false))
		}
	}
}

func TestP161Example(t *testing.T) {
	c, p := made(t, 1)
	if g, e := c.Serve(true, 5); g != (api.Got{What: api.DoBuffer, Val: 5, Ok: true}) || e != api.OK {
		t.Error(g, e)
	}
	if c.What(true) != api.DoWait {
		t.Error(c.What(true))
	}
	if e := c.Wait(true, api.Wait{Task: 7, Val: 6}); e != api.OK {
		t.Error(e)
	}
	if g, e := c.Serve(false, 0); g != (api.Got{What: api.DoRefill, Peer: api.Wait{Task: 7, Val: 6}, Val: 5, Ok: true, Val2: 6}) || e != api.OK {
		t.Error(g, e)
	}
	p.buf = []int64{6}
	same(t, c, p)
}

// TestP161What: each answer, written out, with nobody and with somebody in each row.
func TestP161What(t *testing.T) {
	s, r := []api.Wait{{Task: 1, Val: 4}}, []api.Wait{{Task: 2}}
	full, some := []int64{8}, []int64{8, 9}
	for _, c := range []struct {
		p             plain
		send, receive uint8
	}{
		{plain{0, nil, false, nil, nil}, api.DoWait, api.DoWait},
		{plain{0, nil, false, s, nil}, api.DoWait, api.DoMeet},
		{plain{0, nil, false, nil, r}, api.DoMeet, api.DoWait},
		{plain{0, nil, false, s, r}, api.DoMeet, api.DoMeet},
		{plain{0, nil, true, nil, nil}, api.DoFault, api.DoZero},
		{plain{0, nil, true, s, nil}, api.DoFault, api.DoMeet},
		{plain{0, nil, true, nil, r}, api.DoFault, api.DoZero},
		{plain{0, nil, true, s, r}, api.DoFault, api.DoMeet},
		{plain{1, nil, false, nil, nil}, api.DoBuffer, api.DoWait},
		{plain{1, nil, false, s, nil}, api.DoBuffer, api.DoRefill},
		{plain{1, nil, false, nil, r}, api.DoMeet, api.DoWait},
		{plain{1, nil, false, s, r}, api.DoMeet, api.DoRefill},
		{plain{1, nil, true, nil, nil}, api.DoFault, api.DoZero},
		{plain{1, nil, true, s, nil}, api.DoFault, api.DoRefill},
		{plain{1, nil, true, nil, r}, api.DoFault, api.DoZero},
		{plain{1, full, false, nil, nil}, api.DoWait, api.DoBuffer},
		{plain{1, full, false, s, nil}, api.DoWait, api.DoRefill},
		{plain{1, full, false, nil, r}, api.DoMeet, api.DoBuffer},
		{plain{1, full, false, s, r}, api.DoMeet, api.DoRefill},
		{plain{1, full, true, nil, nil}, api.DoFault, api.DoBuffer},
		{plain{1, full, true, s, nil}, api.DoFault, api.DoRefill},
		{plain{1, full, true, nil, r}, api.DoFault, api.DoBuffer},
		{plain{3, some, false, nil, nil}, api.DoBuffer, api.DoBuffer},
		{plain{3, some, false, s, nil}, api.DoBuffer, api.DoRefill},
		{plain{3, some, false, nil, r}, api.DoMeet, api.DoBuffer},
		{plain{3, some, false, s, r}, api.DoMeet, api.DoRefill},
		{plain{3, some, true, nil, nil}, api.DoFault, api.DoBuffer},
		{plain{3, some, true, s, r}, api.DoFault, api.DoRefill},
	} {
		x := built(t, &c.p, 0)
		for range 2 {
			if send, receive := x.What(true), x.What(false); send != c.send || receive != c.receive {
				t.Errorf("of %+v: What is %d, %d, not %d, %d", c.p, send, receive, c.send, c.receive)
			}
		}
		same(t, x, &c.p)
	}
}

// TestP161WhatEach: of each state; same tells what it must be.
func TestP161WhatEach(t *testing.T) {
	each(t, func(c *mchan.Chan, p *plain) { same(t, c, p) })
}

// TestP161WaitLast: whatever What tells, w is the last one of its row, and of no other.
func TestP161WaitLast(t *testing.T) {
	each(t, func(c *mchan.Chan, p *plain) {
		for _, send := range both {
			for k, v := range edges() {
				w := api.Wait{Task: 20 + k, Case: -1, Val: v}
				if e := c.Wait(send, w); e != api.OK {
					t.Fatalf("of %+v: Wait(%v, %v) is %v", *p, send, w, e)
				}
				*p.row(send) = append(*p.row(send), w)
				same(t, c, p)
			}
		}
	})
}

// TestP161WaitTwice: who has Task and Case of one of that row is refused, wherever that stands, whatever its value; not who has but one of the two, or is in the other row.
func TestP161WaitTwice(t *testing.T) {
	row := []api.Wait{{Task: 4, Case: -1, Val: 1}, {Task: 4, Case: 2, Val: 2}, {Task: 5, Case: 2, Val: 3}, {Task: 0, Case: 0, Val: 0}}
	for _, send := range both {
		c, p := made(t, 1)
		for _, w := range row {
			wait(t, c, p, send, w)
		}
		for _, w := range row {
			for _, v := range edges() {
				if e := c.Wait(send, api.Wait{Task: w.Task, Case: w.Case, Val: v}); e != api.ErrHave {
					t.Errorf("Wait(%v) again with %d is %v", w, v, e)
				}
			}
		}
		same(t, c, p)
		for _, w := range row { // the other row has none of them yet, and all of them then
			if e := c.Wait(!send, w); e != api.OK {
				t.Errorf("Wait(%v) in the other row is %v", w, e)
			}
			p.wait(!send, w)
			if e := c.Wait(!send, w); e != api.ErrHave {
				t.Errorf("Wait(%v) in the other row again is %v", w, e)
			}
			same(t, c, p)
		}
		for _, w := range []api.Wait{{Task: 5, Case: -1}, {Task: 4, Case: 0}, {Task: 0, Case: -1}, {Task: 0, Case: 2}, {Task: 2, Case: 4}, {Task: -1, Case: 4}, {Task: 6, Case: 2, Val: 3}} {
			if e := c.Wait(send, w); e != api.OK {
				t.Errorf("Wait(%v) is %v", w, e)
			}
			p.wait(send, w)
		}
		same(t, c, p)
	}
}

// TestP161WaitAgain: who went, by Take, by Serve or by Drop, may wait again, and is the last one then.
func TestP161WaitAgain(t *testing.T) {
	for _, send := range both {
		for way := range 3 {
			c, p := made(t, 0)
			for k := range 3 {
				wait(t, c, p, send, api.Wait{Task: k, Case: -1, Val: int64(k)})
			}
			switch way {
			case 0:
				take(t, c, p, send)
			case 1:
				serve(t, c, p, !send, 9)
			default:
				drop(t, c, p, 0)
			}
			wait(t, c, p, send, api.Wait{Task: 0, Case: -1, Val: 70})
			same(t, c, p)
			if l := c.Row(send); len(l) != 3 || l[2] != (api.Wait{Task: 0, Case: -1, Val: 70}) {
				t.Errorf("way %d: %v", way, l)
			}
		}
	}
}

// TestP161WaitNumbers: all pairs of numbers, far outside of tasks and cases too, stand apart.
func TestP161WaitNumbers(t *testing.T) {
	c, p := made(t, 2)
	for range 2 {
		for _, task := range numbers() {
			for _, k := range numbers() {
				for _, send := range both {
					wait(t, c, p, send, api.Wait{Task: task, Case: k, Val: int64(task) - int64(k)})
				}
			}
		}
		same(t, c, p)
	}
	if n := len(c.Row(true)); n != len(numbers())*len(numbers()) {
		t.Error(n)
	}
}

// TestP161WaitMany: rows have no most.
func TestP161WaitMany(t *testing.T) {
	c, p := made(t, 1)
	for k := range 1500 {
		wait(t, c, p, true, api.Wait{Task: k / 6, Case: k % 6, Val: int64(sample.Mix(k))})
		wait(t, c, p, false, api.Wait{Task: k % 250, Case: k / 250})
	}
	same(t, c, p)
	for range 1501 {
		take(t, c, p, true)
		take(t, c, p, false)
	}
	same(t, c, p)
}

func TestP161Nil(t *testing.T) {
	var c *mchan.Chan
	for _, send := range both {
		if do := c.What(send); do != 0 {
			t.Error(do)
		}
		if e := c.Wait(send, api.Wait{Task: 1}); e != api.ErrNil {
			t.Error(e)
		}
	}
}

// TestP162Serve: each that can be done, and what is there behind it, written out.
func TestP162Serve(t *testing.T) {
	a, b := api.Wait{Task: 3, Case: 2, Val: 40}, api.Wait{Task: 3, Case: -1, Val: 50}
	s, r := []api.Wait{a, b}, []api.Wait{b, a}
	for k, c := range []struct {
		p     plain
		send  bool
		want  api.Got
		after plain
	}{
		{plain{0, nil, false, nil, r}, true, api.Got{What: api.DoMeet, Peer: b, Val: 6, Ok: true}, plain{0, nil, false, nil, r[1:]}},
		{plain{0, nil, false, s, r}, true, api.Got{What: api.DoMeet, Peer: b, Val: 6, Ok: true}, plain{0, nil, false, s, r[1:]}},
		{plain{2, nil, false, nil, r}, true, api.Got{What: api.DoMeet, Peer: b, Val: 6, Ok: true}, plain{2, nil, false, nil, r[1:]}},
		{plain{2, []int64{8}, false, s, r}, true, api.Got{What: api.DoMeet, Peer: b, Val: 6, Ok: true}, plain{2, []int64{8}, false, s, r[1:]}},
		{plain{1, []int64{8}, false, nil, r[:1]}, true, api.Got{What: api.DoMeet, Peer: b, Val: 6, Ok: true}, plain{1, []int64{8}, false, nil, nil}},
		{plain{1, nil, false, nil, nil}, true, api.Got{What: api.DoBuffer, Val: 6, Ok: true}, plain{1, []int64{6}, false, nil, nil}},
		{plain{1, nil, false, s, nil}, true, api.Got{What: api.DoBuffer, Val: 6, Ok: true}, plain{1, []int64{6}, false, s, nil}},
		{plain{3, []int64{8, 9}, false, s, nil}, true, api.Got{What: api.DoBuffer, Val: 6, Ok: true}, plain{3, []int64{8, 9, 6}, false, s, nil}},
		{plain{0, nil, false, s, nil}, false, api.Got{What: api.DoMeet, Peer: a, Val: 40, Ok: true}, plain{0, nil, false, s[1:], nil}},
		{plain{0, nil, true, s, r}, false, api.Got{What: api.DoMeet, Peer: a, Val: 40, Ok: true}, plain{0, nil, true, s[1:], r}},
		{plain{1, []int64{8}, false, s, nil}, false, api.Got{What: api.DoRefill, Peer: a, Val: 8, Ok: true, Val2: 40}, plain{1, []int64{40}, false, s[1:], nil}},
		{plain{1, []int64{8}, true, s, r}, false, api.Got{What: api.DoRefill, Peer: a, Val: 8, Ok: true, Val2: 40}, plain{1, []int64{40}, true, s[1:], r}},
		{plain{3, []int64{8, 9}, false, s, nil}, false, api.Got{What: api.DoRefill, Peer: a, Val: 8, Ok: true, Val2: 40}, plain{3, []int64{9, 40}, false, s[1:], nil}},
		{plain{3, []int64{8, 9, 10}, false, s[1:], nil}, false, api.Got{What: api.DoRefill, Peer: b, Val: 8, Ok: true, Val2: 50}, plain{3, []int64{9, 10, 50}, false, nil, nil}},
		{plain{3, nil, false, s, nil}, false, api.Got{What: api.DoRefill, Peer: a, Val: 0, Ok: true, Val2: 40}, plain{3, []int64{40}, false, s[1:], nil}},
		{plain{1, nil, true, s, r}, false, api.Got{What: api.DoRefill, Peer: a, Val: 0, Ok: true, Val2: 40}, plain{1, []int64{40}, true, s[1:], r}},
		{plain{1, []int64{8}, false, nil, nil}, false, api.Got{What: api.DoBuffer, Val: 8, Ok: true}, plain{1, nil, false, nil, nil}},
		{plain{3, []int64{8, 9}, false, nil, r}, false, api.Got{What: api.DoBuffer, Val: 8, Ok: true}, plain{3, []int64{9}, false, nil, r}},
		{plain{3, []int64{8, 9}, true, nil, nil}, false, api.Got{What: api.DoBuffer, Val: 8, Ok: true}, plain{3, []int64{9}, true, nil, nil}},
		{plain{3, nil, true, nil, nil}, false, api.Got{What: api.DoZero}, plain{3, nil, true, nil, nil}},
		{plain{0, nil, true, nil, r}, false, api.Got{What: api.DoZero}, plain{0, nil, true, nil, r}},
	} {
		for by := range 9 {
			x := built(t, &c.p, by)
			val := int64(6)
			if !c.send {
				val = int64(by) * 1000 // who receives brings no value: what is handed in there counts for nothing
			}
			if g, e := x.Serve(c.send, val); g != c.want || e != api.OK {
				t.Errorf("%d: of %+v: Serve(%v) is %+v, %v, not %+v", k, c.p, c.send, g, e, c.want)
			}
			same(t, x, &c.after)
		}
	}
}

// TestP162ServeEach: of each state, to send and to receive, each value.
func TestP162ServeEach(t *testing.T) {
	each(t, func(c *mchan.Chan, p *plain) {
		for _, send := range both {
			for _, v := range edges() {
				d, q := c.Copy(), p.copied()
				serve(t, d, q, send, v)
				same(t, d, q)
			}
		}
		same(t, c, p)
	})
}

// TestP162ServeOn: of each state, one behind the other, till it is refused, in each order of two.
func TestP162ServeOn(t *testing.T) {
	for k, p := range states(3) {
		for bits := range 16 {
			c, q := built(t, p, k%9), p.copied()
			for n := range 12 {
				serve(t, c, q, bits>>(n%4)&1 != 0, int64(n))
				same(t, c, q)
			}
		}
	}
}

// TestP162Refused: to send on a closed one, and where one has to wait: nothing is done.
func TestP162Refused(t *testing.T) {
	met := map[uint8]int{}
	each(t, func(c *mchan.Chan, p *plain) {
		for _, send := range both {
			do := p.what(send)
			if do != api.DoFault && do != api.DoWait {
				continue
			}
			met[do]++
			for _, v := range edges() {
				if g, e := c.Serve(send, v); g != (api.Got{}) || e != api.ErrType {
					t.Fatalf("of %+v: Serve(%v, %d) is %+v, %v", *p, send, v, g, e)
				}
			}
			same(t, c, p)
		}
	})
	if met[api.DoFault] == 0 || met[api.DoWait] == 0 {
		t.Error(met)
	}
}

// TestP162Peer: the whole of who waited is told, whatever its fields; a receiver's own Val is no value of the operation.
func TestP162Peer(t *testing.T) {
	for _, task := range numbers() {
		for _, v := range edges() {
			w := api.Wait{Task: task, Case: -task, Val: v}
			c, p := made(t, 0)
			wait(t, c, p, false, w)
			if g, e := serve(t, c, p, true, 77); g != (api.Got{What: api.DoMeet, Peer: w, Val: 77, Ok: true}) || e != api.OK {
				t.Error(g, e)
			}
			wait(t, c, p, true, w)
			if g, e := serve(t, c, p, false, 77); g != (api.Got{What: api.DoMeet, Peer: w, Val: v, Ok: true}) || e != api.OK {
				t.Error(g, e)
			}
			d, q := made(t, 1)
			serve(t, d, q, true, 78)
			wait(t, d, q, true, w)
			if g, e := serve(t, d, q, false, 77); g != (api.Got{What: api.DoRefill, Peer: w, Val: 78, Ok: true, Val2: v}) || e != api.OK {
				t.Error(g, e)
			}
			same(t, c, p)
			same(t, d, q)
		}
	}
}

// TestP162RefillEmpty: of each capacity with a buffer, one that waits though there was room.
func TestP162RefillEmpty(t *testing.T) {
	for most := 1; most <= 8; most++ {
		for by := range 9 {
			p := &plain{most: most, send: []api.Wait{{Task: 5, Case: 1, Val: 30}, {Task: 6, Case: 1, Val: 31}}}
			c := built(t, p, by)
			for k, want := range []int64{0, 30} {
				if g, e := c.Serve(false, 0); g.What != api.DoRefill || g.Val != want || !g.Ok || g.Peer.Task != 5+k || g.Val2 != int64(30+k) || e != api.OK {
					t.Fatalf("capacity %d: %+v, %v", most, g, e)
				}
			}
			same(t, c, &plain{most: most, buf: []int64{31}})
		}
	}
}

func TestP162Nil(t *testing.T) {
	var c *mchan.Chan
	for _, send := range both {
		if g, e := c.Serve(send, 5); g != (api.Got{}) || e != api.ErrNil {
			t.Error(g, e)
		}
	}
}

// TestP163Close: once; all else stays.
func TestP163Close(t *testing.T) {
	each(t, func(c *mchan.Chan, p *plain) {
		want := api.OK
		if p.closed {
			want = api.ErrHave
		}
		if e := c.Close(); e != want {
			t.Fatalf("of %+v: Close is %v", *p, e)
		}
		p.closed = true
		same(t, c, p)
		if e := c.Close(); e != api.ErrHave {
			t.Fatalf("of %+v: Close again is %v", *p, e)
		}
		same(t, c, p)
	})
}

// TestP163Drop: of one that waits in both rows, several times, in one, once, never; all others stay in order.
func TestP163Drop(t *testing.T) {
	s := []api.Wait{{Task: 1, Case: -1, Val: 1}, {Task: 2, Case: 0, Val: 2}, {Task: 1, Case: 1, Val: 3}, {Task: 3, Case: 0, Val: 4}, {Task: 0, Case: 1, Val: 5}}
	r := []api.Wait{{Task: 4, Case: 0}, {Task: 1, Case: -1}, {Task: 3, Case: 0}, {Task: 3, Case: 1}, {Task: 1, Case: 4}}
	for _, c := range []struct {
		task, n    int
		send, recv []api.Wait
	}{
		{1, 4, []api.Wait{s[1], s[3], s[4]}, []api.Wait{r[0], r[2], r[3]}},
		{2, 1, []api.Wait{s[0], s[2], s[3], s[4]}, r},
		{3, 3, []api.Wait{s[0], s[1], s[2], s[4]}, []api.Wait{r[0], r[1], r[4]}},
		{4, 1, s, r[1:]},
		{0, 1, s[:4], r},
		{5, 0, s, r},
		{-1, 0, s, r},
		{1<<32 + 1, 0, s, r},
		{math.MinInt, 0, s, r},
	} {
		for _, closed := range both {
			x := built(t, &plain{2, []int64{6, 7}, closed, s, r}, 1)
			p := &plain{2, []int64{6, 7}, closed, c.send, c.recv}
			for _, n := range []int{c.n, 0} {
				if got := x.Drop(c.task); got != n {
					t.Errorf("Drop(%d) is %d, not %d", c.task, got, n)
				}
				same(t, x, p)
			}
		}
	}
}

// TestP163DropEach: of each state, each task, one behind the other; nobody is left then.
func TestP163DropEach(t *testing.T) {
	each(t, func(c *mchan.Chan, p *plain) {
		for _, task := range append(numbers(), 3, 7, 9, 8, 10) {
			d, q := c.Copy(), p.copied()
			drop(t, d, q, task)
			same(t, d, q)
			wait(t, d, q, true, api.Wait{Task: task, Case: 9})
			wait(t, d, q, false, api.Wait{Task: task, Case: 9})
			same(t, d, q)
			drop(t, d, q, task)
			same(t, d, q)
		}
		for _, task := range []int{9, 1, 7, 3} {
			drop(t, c, p, task)
			same(t, c, p)
		}
		if len(c.Row(true))+len(c.Row(false)) != 0 {
			t.Fatalf("%v, %v are left", c.Row(true), c.Row(false))
		}
	})
}

// TestP163DropAll: where all are of one task.
func TestP163DropAll(t *testing.T) {
	for _, task := range numbers() {
		c, p := made(t, 0)
		for k := range 40 {
			wait(t, c, p, k%3 == 0, api.Wait{Task: task, Case: k})
		}
		if n := c.Drop(task); n != 40 {
			t.Errorf("Drop(%d) is %d", task, n)
		}
		same(t, c, &plain{})
		drop(t, c, &plain{}, task)
	}
}

// TestP163Take: down to none, each row for itself; what is told of an empty one is told from a Wait that is all zero.
func TestP163Take(t *testing.T) {
	each(t, func(c *mchan.Chan, p *plain) {
		for _, send := range both {
			d, q := c.Copy(), p.copied()
			wait(t, d, q, send, api.Wait{})
			for _, want := range *q.copied().row(send) {
				if w, is := d.First(send); w != want || !is {
					t.Fatalf("of %+v: First(%v) is %v, %v", *q, send, w, is)
				}
				if w, e := d.Take(send); w != want || e != api.OK {
					t.Fatalf("of %+v: Take(%v) is %v, %v", *q, send, w, e)
				}
				q.take(send)
				same(t, d, q)
			}
			for range 2 {
				if w, is := d.First(send); w != (api.Wait{}) || is {
					t.Fatalf("First(%v) of none is %v, %v", send, w, is)
				}
				if w, e := d.Take(send); w != (api.Wait{}) || e != api.ErrNone {
					t.Fatalf("Take(%v) of none is %v, %v", send, w, e)
				}
				same(t, d, q)
			}
		}
	})
}

func TestP163Nil(t *testing.T) {
	var c *mchan.Chan
	if e := c.Close(); e != api.ErrNil {
		t.Error(e)
	}
	for _, task := range numbers() {
		if n := c.Drop(task); n != 0 {
			t.Error(task, n)
		}
	}
	for _, send := range both {
		if w, is := c.First(send); w != (api.Wait{}) || is {
			t.Error(w, is)
		}
		if w, e := c.Take(send); w != (api.Wait{}) || e != api.ErrNil {
			t.Error(w, e)
		}
	}
}

// TestP164ListsAreNew: what is written to a row or a buffer that was told changes neither the channel nor another list, nor does what is done to the channel change a list.
func TestP164ListsAreNew(t *testing.T) {
	each(t, func(c *mchan.Chan, p *plain) {
		told := p.copied()
		s, r, b := c.Row(true), c.Row(false), c.Buffer()
		for _, l := range [][]api.Wait{c.Row(true), c.Row(false)} {
			for k := range l {
				l[k] = api.Wait{Task: -9, Case: -9, Val: -9}
			}
			_ = append(l, api.Wait{Task: -8})
		}
		l := c.Buffer()
		for k := range l {
			l[k] = -7
		}
		_ = append(l, -6)
		same(t, c, p)
		wait(t, c, p, true, api.Wait{Task: 90})
		wait(t, c, p, false, api.Wait{Task: 91})
		take(t, c, p, true)
		take(t, c, p, false)
		serve(t, c, p, true, 92)
		serve(t, c, p, false, 0)
		drop(t, c, p, 3)
		drop(t, c, p, 9)
		same(t, c, p)
		if !slices.Equal(s, told.send) || !slices.Equal(r, told.recv) || !slices.Equal(b, told.buf) {
			t.Fatalf("of %+v: lists that were told are %v, %v, %d", *told, s, r, b)
		}
	})
}

// steps is how many things do can do.
const steps = 10

// do does one thing, of 0 to below steps, to both, and fails unless it comes to the same; k tells of all others apart.
func do(t *testing.T, c *mchan.Chan, p *plain, step, k int) {
	t.Helper()
	val := int64(100 + k)
	switch step {
	case 0:
		serve(t, c, p, true, val)
	case 1:
		serve(t, c, p, false, val)
	case 2:
		wait(t, c, p, true, api.Wait{Task: 1, Case: 0, Val: val})
	case 3:
		wait(t, c, p, true, api.Wait{Task: 2, Case: k, Val: val})
	case 4:
		wait(t, c, p, false, api.Wait{Task: 1, Case: 0, Val: val})
	case 5:
		wait(t, c, p, false, api.Wait{Task: 1, Case: k, Val: val})
	case 6:
		drop(t, c, p, 1)
	case 7:
		shut(t, c, p)
	case 8:
		take(t, c, p, true)
	case 9:
		take(t, c, p, false)
	}
	same(t, c, p)
}

// TestP164Copy: of each state, a copy is the same, and both go on apart, as does a copy of the copy.
func TestP164Copy(t *testing.T) {
	each(t, func(c *mchan.Chan, p *plain) {
		d := c.Copy()
		if d == c {
			t.Fatal("a copy is the channel itself")
		}
		e := d.Copy()
		pc, pd, pe := p.copied(), p.copied(), p.copied()
		for k, step := range []int{3, 5, 1, 0, 8, 2, 4, 1, 9, 0, 6, 7, 1, 0} {
			do(t, c, pc, step, 20+k)
			same(t, d, pd)
		}
		for k, step := range []int{5, 3, 9, 8, 0, 1, 2, 7, 1, 6, 4, 0, 1} {
			do(t, d, pd, step, 40+k)
			same(t, c, pc)
			same(t, e, pe)
		}
		same(t, built(t, p, 0), pe)
	})
}

// TestP164CopyRoom: rows of each length: what two copies put behind them does not come to stand in one place.
func TestP164CopyRoom(t *testing.T) {
	for n := range 70 {
		p := &plain{most: 0, send: waits(1, n), recv: waits(1, n)}
		c := built(t, p, 0)
		take(t, c, p, true)
		d, q := c.Copy(), p.copied()
		for k := range 3 {
			for _, send := range both {
				wait(t, c, p, send, api.Wait{Task: 200 + k, Val: 1})
				wait(t, d, q, send, api.Wait{Task: 300 + k, Val: 2})
			}
		}
		same(t, c, p)
		same(t, d, q)
	}
}

func TestP164Nil(t *testing.T) {
	var c *mchan.Chan
	if c.Closed() || len(c.Row(true)) != 0 || len(c.Row(false)) != 0 || len(c.Buffer()) != 0 || c.Cap() != 0 || c.Copy() != nil {
		t.Error(c.Closed(), c.Row(true), c.Row(false), c.Buffer(), c.Cap(), c.Copy())
	}
}

// TestAllShort holds channels against plain ones, over all rows of up to 5 steps, of some capacities; each goes on from a copy, and what it was copied from stays.
func TestAllShort(t *testing.T) {
	var on func(c *mchan.Chan, p *plain, k int)
	on = func(c *mchan.Chan, p *plain, k int) {
		if k == 5 {
			return
		}
		for step := range steps {
			d, q := c.Copy(), p.copied()
			do(t, d, q, step, k)
			on(d, q, k+1)
		}
		same(t, c, p)
	}
	for most := range 3 {
		c, p := made(t, most)
		on(c, p, 0)
	}
}

// TestLongRows holds channels against plain ones over many steps, so that buffers go around and rows grow and shrink; some are never closed.
func TestLongRows(t *testing.T) {
	for most := range 9 {
		for n := range 12 {
			c, p := made(t, most)
			for k := range 600 {
				luck := sample.Mix(100000*most + 1000*n + k)
				step := []int{0, 1, 2, 3, 4, 5, 8, 9, 0, 1, 3, 5}[luck%12]
				switch {
				case luck>>8%40 == 0:
					step = 6
				case n%3 == 0 && luck>>8%200 == 1:
					step = 7
				}
				do(t, c, p, step, k)
			}
		}
	}
}

// traffic is a channel at which those alone wait for whom What tells DoWait, and what went by.
type traffic struct {
	c      *mchan.Chan
	closed bool
	sent   []int64       // values, in the order in which those came that sent them, without those that went before
	came   []int         // who came to receive, in order, without those that went before, and those that got nothing
	has    map[int]int64 // what these received
}

// opened answers one of that capacity, where nothing went by yet.
func opened(t *testing.T, most int) *traffic {
	t.Helper()
	c, _ := made(t, most)
	return &traffic{c: c, has: map[int]int64{}}
}

// copied is another one, that is the same.
func (x *traffic) copied() *traffic {
	y := &traffic{x.c.Copy(), x.closed, slices.Clone(x.sent), slices.Clone(x.came), map[int]int64{}}
	for k, v := range x.has {
		y.has[k] = v
	}
	return y
}

// send lets task come to send val.
func (x *traffic) send(t *testing.T, task int, val int64) {
	t.Helper()
	switch x.c.What(true) {
	case api.DoFault:
		return
	case api.DoWait:
		if e := x.c.Wait(true, api.Wait{Task: task, Case: -1, Val: val}); e != api.OK {
			t.Fatal(e)
		}
	default:
		g, e := x.c.Serve(true, val)
		if e != api.OK {
			t.Fatal(e)
		}
		if g.What == api.DoMeet {
			x.receives(t, g.Peer.Task, g.Val)
		}
	}
	x.sent = append(x.sent, val)
}

// receive lets task come to receive.
func (x *traffic) receive(t *testing.T, task int) {
	t.Helper()
	if x.c.What(false) == api.DoWait {
		if e := x.c.Wait(false, api.Wait{Task: task, Case: -1}); e != api.OK {
			t.Fatal(e)
		}
		x.came = append(x.came, task)
		return
	}
	g, e := x.c.Serve(false, 0)
	if e != api.OK {
		t.Fatal(e)
	}
	if g.Ok {
		x.came = append(x.came, task)
		x.receives(t, task, g.Val)
	}
}

func (x *traffic) receives(t *testing.T, task int, val int64) {
	t.Helper()
	if v, is := x.has[task]; is {
		t.Fatalf("task %d has %d, and receives %d", task, v, val)
	}
	x.has[task] = val
}

// shut closes it, and lets all go that wait to receive.
func (x *traffic) shut(t *testing.T) {
	t.Helper()
	if e := x.c.Close(); (e == api.OK) == x.closed {
		t.Fatal(e)
	}
	x.closed = true
	for range x.c.Row(false) {
		w, e := x.c.Take(false)
		if e != api.OK {
			t.Fatal(w, e)
		}
		x.came = slices.DeleteFunc(x.came, func(k int) bool { return k == w.Task })
	}
}

// leave lets the one go that waits in that row, behind so many others, if there is one.
func (x *traffic) leave(t *testing.T, send bool, at int) {
	t.Helper()
	row := x.c.Row(send)
	if at >= len(row) {
		return
	}
	w := row[at]
	if n := x.c.Drop(w.Task); n != 1 {
		t.Fatal(w, n)
	}
	x.came = slices.DeleteFunc(x.came, func(k int) bool { return k == w.Task })
	if send {
		x.sent = slices.DeleteFunc(x.sent, func(v int64) bool { return v == w.Val })
	}
}

// holds fails, unless it is as P16.5 says.
func (x *traffic) holds(t *testing.T) {
	t.Helper()
	s, r, buf := x.c.Row(true), x.c.Row(false), x.c.Buffer()
	switch {
	case len(s) > 0 && len(r) > 0:
		t.Fatalf("%v wait to send, and %v to receive", s, r)
	case len(s) > 0 && len(buf) != x.c.Cap():
		t.Fatalf("%v wait to send, and the buffer of %d has %d", s, x.c.Cap(), buf)
	case len(r) > 0 && len(buf) != 0:
		t.Fatalf("%v wait to receive, and the buffer has %d", r, buf)
	}
	var out []int64 // what was received, by those that came, in order; then what is on its way
	for k, task := range x.came {
		if v, is := x.has[task]; is && k == len(out) {
			out = append(out, v)
		}
	}
	if len(out) != len(x.has) {
		t.Fatalf("of %d, in order, those received that have some of %v", x.came, x.has)
	}
	out = append(out, buf...)
	for _, w := range s {
		out = append(out, w.Val)
	}
	if !slices.Equal(out, x.sent) {
		t.Fatalf("%d were sent, %d came out or are on their way", x.sent, out)
	}
}

// goes does one thing, of 0 to 6, as number k.
func (x *traffic) goes(t *testing.T, step, k int) {
	t.Helper()
	switch step {
	case 0:
		x.send(t, 10+k, int64(1000+k))
	case 1:
		x.receive(t, 10+k)
	case 2, 3:
		x.leave(t, step == 2, 0)
	case 4, 5:
		x.leave(t, step == 4, 1)
	case 6:
		x.shut(t)
	}
	x.holds(t)
}

// TestP165AllShort: all rows of 6 of those that come and go, of some capacities, also as the channel is closed.
func TestP165AllShort(t *testing.T) {
	var on func(x *traffic, k int)
	on = func(x *traffic, k int) {
		if k == 6 {
			return
		}
		for step := range 7 {
			y := x.copied()
			y.goes(t, step, k)
			on(y, k+1)
		}
	}
	for most := range 4 {
		on(opened(t, most), 0)
	}
}

// TestP165LongRows: many come and go, now more to send, now more to receive; all that was sent comes out at the end.
func TestP165LongRows(t *testing.T) {
	for most := range 9 {
		for n := range 8 {
			x := opened(t, most)
			for k := range 400 {
				luck := sample.Mix(100000*most + 1000*n + k)
				step := int(luck >> 8 % 6)
				if few := uint64(3 + k/40%2*4); luck%20 >= 3 { // 4 or 8 of 12 send
					step = 1
					if luck>>16%12 <= few {
						step = 0
					}
				}
				x.goes(t, step, k)
			}
			for k := range 500 {
				x.goes(t, 1, 400+k)
			}
			if len(x.c.Buffer())+len(x.c.Row(true)) != 0 || len(x.has) != len(x.sent) || len(x.sent) < 100 {
				t.Fatalf("capacity %d: %d of %d came out", most, len(x.has), len(x.sent))
			}
			x.goes(t, 6, 0)
			x.goes(t, 0, 900)
			x.goes(t, 1, 901)
			if x.c.What(true) != api.DoFault || x.c.What(false) != api.DoZero {
				t.Fatal(x.c.What(true), x.c.What(false))
			}
		}
	}
}

// TestP165EqualValues: values that are alike are received as often as they were sent.
func TestP165EqualValues(t *testing.T) {
	for most := range 9 {
		c, p := made(t, most)
		for k := range 30 {
			if c.What(true) == api.DoWait {
				wait(t, c, p, true, api.Wait{Task: k, Case: -1, Val: int64(k / 10)})
			} else {
				serve(t, c, p, true, int64(k/10))
			}
		}
		for k := range 30 {
			if g, e := serve(t, c, p, false, 0); g.Val != int64(k/10) || !g.Ok || e != api.OK {
				t.Fatalf("capacity %d: value %d is %+v, %v", most, k, g, e)
			}
		}
		if c.What(false) != api.DoWait {
			t.Fatal(c.What(false))
		}
	}
}
