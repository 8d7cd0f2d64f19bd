package plan_test

import (
	"slices"
	"testing"

	"tollbar/api"
	"tollbar/hchan"
	"tollbar/mchan"
	"tollbar/plan"
	"tollbar/sample"
)

// both are to send, and to receive.
var both = []bool{true, false}

// plain is a channel as the chapter's words see it.
type plain struct {
	most       int
	buf        []int64
	closed     bool
	send, recv []int
}

func (p *plain) row(send bool) []int {
	if send {
		return p.send
	}
	return p.recv
}

// first is the first one of l, 0 where there is none.
func first(l []int) int {
	return append(slices.Clone(l), 0)[0]
}

// look is the first that is so, of the chapter's row of words.
func (p *plain) look(send bool) api.Plan {
	words := []struct {
		is bool
		x  api.Plan
	}{
		{send && p.closed, api.Plan{Do: 1}},
		{send && len(p.recv) > 0, api.Plan{Do: 2, Slot: first(p.recv)}},
		{send && len(p.buf) < p.most, api.Plan{Do: 3}},
		{send, api.Plan{Do: 5}},
		{len(p.send) > 0, api.Plan{Do: 2, Slot: first(p.send)}},
		{len(p.buf) > 0, api.Plan{Do: 3}},
		{p.closed, api.Plan{Do: 4}},
		{true, api.Plan{Do: 5}},
	}
	for _, w := range words {
		if w.is {
			return w.x
		}
	}
	return api.Plan{}
}

// quiet tells whether none of what the chapter names is so.
func (p *plain) quiet() bool {
	send, recv := len(p.send) > 0, len(p.recv) > 0
	for _, served := range []bool{
		send && len(p.buf) < p.most,
		recv && len(p.buf) > 0,
		recv && p.closed,
		send && p.closed,
		send && recv,
	} {
		if served {
			return false
		}
	}
	return true
}

// wake is who is woken first.
func (p *plain) wake() (slot int, send, is bool) {
	switch {
	case p.closed && len(p.recv) > 0:
		return p.recv[0], false, true
	case p.closed && len(p.send) > 0:
		return p.send[0], true, true
	}
	return 0, false, false
}

// made answers a channel that is open, empty.
func made(t *testing.T, most int) *hchan.Chan {
	t.Helper()
	c, e := hchan.New(most)
	if e != api.OK {
		t.Fatal(most, e)
	}
	return c
}

// ok fails, unless each of l is OK.
func ok(t *testing.T, l ...api.Errno) {
	t.Helper()
	for _, e := range l {
		if e != api.OK {
			t.Fatal(l)
		}
	}
}

// built answers a channel that is as p, whose values went around by so many places.
func built(t *testing.T, p plain, by int) *hchan.Chan {
	t.Helper()
	c := made(t, p.most)
	if p.most > 0 {
		for range by {
			ok(t, c.Put(99))
			_, e := c.Take()
			ok(t, e)
		}
	}
	for _, v := range p.buf {
		ok(t, c.Put(v))
	}
	for _, send := range both {
		for _, s := range p.row(send) {
			ok(t, c.Enq(send, s))
		}
	}
	if p.closed {
		ok(t, c.Shut())
	}
	return c
}

// told is how c is by what it answers itself.
func told(c *hchan.Chan) plain {
	return plain{c.Cap(), c.Buffer(), c.Closed(), c.Row(true), c.Row(false)}
}

func sameAs(a, b plain) bool {
	return a.most == b.most && a.closed == b.closed && slices.Equal(a.buf, b.buf) && slices.Equal(a.send, b.send) && slices.Equal(a.recv, b.recv)
}

// states are channels of each capacity and filling, open and closed, with none that wait, one, and more of either kind.
func states() (l []plain) {
	rows := [][]int{nil, {0}, {5}, {5, 3}, {3, 5}, {1023, 0, 5}, {1, 1022}}
	for most := range api.MaxCap + 1 {
		for n := range most + 1 {
			for _, closed := range both {
				for _, send := range rows {
					for _, recv := range rows {
						l = append(l, plain{most, []int64{0, 7, -1, 3, 0, 9, 1 << 40, 2}[:n], closed, send, recv})
					}
				}
			}
		}
	}
	return l
}

// each does all that is to be done with a channel of each state.
func each(t *testing.T, do func(t *testing.T, c *hchan.Chan, p plain)) {
	t.Helper()
	for k, p := range states() {
		do(t, built(t, p, k%11), p)
	}
}

// seen fails, unless all calls see c as the chapter's words have it, each time, and leave it as it is.
func seen(t *testing.T, c *hchan.Chan, p plain) {
	t.Helper()
	for range 2 {
		for _, send := range both {
			if got, want := plan.Look(c, send), p.look(send); got != want {
				t.Fatalf("%+v: Look(%v) is %+v, not %+v", p, send, got, want)
			}
			if got, want := plan.Swaps(c, send), !send && p.most > 0; got != want {
				t.Fatalf("%+v: Swaps(%v) is %v", p, send, got)
			}
		}
		if got := plan.Quiet(c); got != p.quiet() {
			t.Fatalf("%+v: Quiet is %v", p, got)
		}
		slot, send, is := plan.Wake(c)
		if ws, wsend, wis := p.wake(); slot != ws || send != wsend || is != wis {
			t.Fatalf("%+v: Wake is %d, %v, %v, not %d, %v, %v", p, slot, send, is, ws, wsend, wis)
		}
	}
	if got := told(c); !sameAs(got, p) {
		t.Fatalf("%+v is %+v, once it was looked at", p, got)
	}
}

func TestExample(t *testing.T) {
	c := made(t, 1)
	if got := [...]api.Plan{plan.Look(c, true), plan.Look(c, false)}; got != [...]api.Plan{{Do: api.PlanBuffer}, {Do: api.PlanWait}} {
		t.Error(got)
	}
	ok(t, c.Enq(false, 3))
	if got := plan.Look(c, true); got != (api.Plan{Do: api.PlanClaim, Slot: 3}) {
		t.Error(got)
	}
	ok(t, c.Shut())
	if got := plan.Look(c, true); got != (api.Plan{Do: api.PlanFault}) {
		t.Error(got)
	}
	if slot, send, is := plan.Wake(c); slot != 3 || send || !is {
		t.Error(slot, send, is)
	}
}

// TestP251Look: of each state the first that is so is what is to be done, and nothing is done yet.
func TestP251Look(t *testing.T) {
	counts := map[api.Plan]int{}
	each(t, func(t *testing.T, c *hchan.Chan, p plain) {
		for _, send := range both {
			got, want := plan.Look(c, send), p.look(send)
			if got != want {
				t.Fatalf("%+v: Look(%v) is %+v, not %+v", p, send, got, want)
			}
			if got.Do != api.PlanClaim && got.Slot != 0 {
				t.Fatalf("%+v: Look(%v) is %+v, which claims none", p, send, got)
			}
			counts[api.Plan{Do: got.Do}]++
		}
		if got := told(c); !sameAs(got, p) {
			t.Fatalf("%+v is %+v, once it was looked at", p, got)
		}
	})
	for _, do := range []uint8{api.PlanFault, api.PlanClaim, api.PlanBuffer, api.PlanZero, api.PlanWait} {
		if counts[api.Plan{Do: do}] == 0 {
			t.Errorf("no state tells %d", do)
		}
	}
}

// TestP251LookWritten: where much is so at once, what is told first.
func TestP251LookWritten(t *testing.T) {
	for k, x := range []struct {
		p          plain
		send, recv api.Plan
	}{
		{plain{most: 2}, api.Plan{Do: 3}, api.Plan{Do: 5}},
		{plain{most: 2, buf: []int64{0}}, api.Plan{Do: 3}, api.Plan{Do: 3}}, // 0 is a value too
		{plain{most: 2, buf: []int64{0, 0}}, api.Plan{Do: 5}, api.Plan{Do: 3}},
		{plain{most: 0}, api.Plan{Do: 5}, api.Plan{Do: 5}},
		{plain{most: 0, closed: true}, api.Plan{Do: 1}, api.Plan{Do: 4}},
		{plain{most: 8, closed: true}, api.Plan{Do: 1}, api.Plan{Do: 4}},                                                 // closed, though there is room
		{plain{most: 8, buf: []int64{1}, closed: true}, api.Plan{Do: 1}, api.Plan{Do: 3}},                                // the buffer ahead of closed
		{plain{most: 8, buf: []int64{1}, closed: true, send: []int{6}}, api.Plan{Do: 1}, api.Plan{Do: 2, Slot: 6}},       // who sends ahead of both
		{plain{most: 8, buf: []int64{1}, closed: true, recv: []int{6}}, api.Plan{Do: 1}, api.Plan{Do: 3}},                // closed, though one waits
		{plain{most: 8, buf: []int64{1}, recv: []int{6, 4}}, api.Plan{Do: 2, Slot: 6}, api.Plan{Do: 3}},                  // who receives ahead of the buffer
		{plain{most: 1, buf: []int64{1}, send: []int{4, 6}}, api.Plan{Do: 5}, api.Plan{Do: 2, Slot: 4}},                  // who sends ahead of the buffer
		{plain{most: 1, send: []int{9}, recv: []int{8}}, api.Plan{Do: 2, Slot: 8}, api.Plan{Do: 2, Slot: 9}},             // each the other one's
		{plain{most: 0, send: []int{0, 1}, recv: []int{1023}}, api.Plan{Do: 2, Slot: 1023}, api.Plan{Do: 2, Slot: 0}},    // the least slot, and the greatest
		{plain{most: 0, send: []int{7}}, api.Plan{Do: 5}, api.Plan{Do: 2, Slot: 7}},                                      // who sends waits behind who sends
		{plain{most: 0, closed: true, recv: []int{7}, send: []int{7}}, api.Plan{Do: 1}, api.Plan{Do: 2, Slot: 7}},        // one slot in both
		{plain{most: 3, buf: []int64{1, 2, 3}, closed: true, send: []int{2}}, api.Plan{Do: 1}, api.Plan{Do: 2, Slot: 2}}, // full
	} {
		c := built(t, x.p, k)
		if s, r := plan.Look(c, true), plan.Look(c, false); s != x.send || r != x.recv {
			t.Errorf("%+v: %+v, %+v, not %+v, %+v", x.p, s, r, x.send, x.recv)
		}
	}
}

// TestP251LookSlot: each slot may be the first one, whatever stands behind it, and it is the first one of the other queue.
func TestP251LookSlot(t *testing.T) {
	for _, send := range both {
		for s := range api.MaxPool {
			c := made(t, s%(api.MaxCap+1))
			other := (s + 517) % api.MaxPool
			ok(t, c.Enq(!send, s), c.Enq(!send, other), c.Enq(send, (s+1)%api.MaxPool), c.Enq(send, s))
			if got := plan.Look(c, send); got != (api.Plan{Do: api.PlanClaim, Slot: s}) {
				t.Fatalf("Look(%v) is %+v, not of %d", send, got, s)
			}
			ok(t, c.Deq(!send, s))
			if got := plan.Look(c, send); got != (api.Plan{Do: api.PlanClaim, Slot: other}) {
				t.Fatalf("Look(%v) is %+v, not of %d", send, got, other)
			}
			ok(t, c.Enq(!send, s))
			if got := plan.Look(c, send); got.Slot != other {
				t.Fatalf("Look(%v) is %+v, not of %d", send, got, other)
			}
			ok(t, c.Deq(!send, other), c.Deq(!send, s))
			if got := plan.Look(c, send); got.Do == api.PlanClaim || got.Slot != 0 {
				t.Fatalf("Look(%v) is %+v, of none", send, got)
			}
		}
	}
}

// TestP251AllSlots: of a queue of all 1,024 slots each is told in its turn.
func TestP251AllSlots(t *testing.T) {
	for _, send := range both {
		c := made(t, 0)
		for k := range api.MaxPool {
			ok(t, c.Enq(!send, k*5%api.MaxPool))
		}
		for k := range api.MaxPool {
			if got := plan.Look(c, send); got != (api.Plan{Do: api.PlanClaim, Slot: k * 5 % api.MaxPool}) {
				t.Fatal(k, got)
			}
			ok(t, c.Deq(!send, k*5%api.MaxPool))
		}
		if got := plan.Look(c, send); got != (api.Plan{Do: api.PlanWait}) {
			t.Fatal(got)
		}
	}
}

// model answers a channel of the model that is as p, whose slots are the tasks that wait.
func model(t *testing.T, p plain) *mchan.Chan {
	t.Helper()
	m, e := mchan.New(p.most)
	ok(t, e)
	for _, v := range p.buf {
		_, e := m.Serve(true, v)
		ok(t, e)
	}
	for _, send := range both {
		for _, s := range p.row(send) {
			ok(t, m.Wait(send, api.Wait{Task: s, Case: api.Plain}))
		}
	}
	if p.closed {
		ok(t, m.Close())
	}
	return m
}

// TestP251AsModel: what is to be done is what the model does, and what Swaps tells is how it refills.
func TestP251AsModel(t *testing.T) {
	each(t, func(t *testing.T, c *hchan.Chan, p plain) {
		m := model(t, p)
		for _, send := range both {
			x := plan.Look(c, send)
			want := map[uint8]uint8{
				api.PlanFault:  api.DoFault,
				api.PlanClaim:  api.DoMeet,
				api.PlanBuffer: api.DoBuffer,
				api.PlanZero:   api.DoZero,
				api.PlanWait:   api.DoWait,
			}[x.Do]
			if x.Do == api.PlanClaim && plan.Swaps(c, send) {
				want = api.DoRefill
			}
			if got := m.What(send); got != want {
				t.Fatalf("%+v: What(%v) is %d, Look is %+v", p, send, got, x)
			}
			if w, _ := m.First(!send); x.Do == api.PlanClaim && w.Task != x.Slot {
				t.Fatalf("%+v: First(%v) is %+v, Look is %+v", p, !send, w, x)
			}
		}
	})
}

// TestP251Swaps: to receive, where the capacity is above 0, and nothing else is asked.
func TestP251Swaps(t *testing.T) {
	each(t, func(t *testing.T, c *hchan.Chan, p plain) {
		if plan.Swaps(c, true) || plan.Swaps(c, false) != (p.most > 0) {
			t.Fatalf("%+v: Swaps is %v, %v", p, plan.Swaps(c, true), plan.Swaps(c, false))
		}
		if got := told(c); !sameAs(got, p) {
			t.Fatalf("%+v is %+v, once it was asked", p, got)
		}
	})
}

func TestP251Nil(t *testing.T) {
	for _, send := range both {
		if got := plan.Look(nil, send); got != (api.Plan{}) {
			t.Error(send, got)
		}
		if plan.Swaps(nil, send) {
			t.Error(send)
		}
	}
}

// TestP252Quiet: of each state, whether none of what is named is so, and nothing is done.
func TestP252Quiet(t *testing.T) {
	quiet := 0
	each(t, func(t *testing.T, c *hchan.Chan, p plain) {
		got := plan.Quiet(c)
		if got != p.quiet() {
			t.Fatalf("%+v: Quiet is %v", p, got)
		}
		if got {
			quiet++
		}
		if got := told(c); !sameAs(got, p) {
			t.Fatalf("%+v is %+v, once it was asked", p, got)
		}
	})
	if quiet == 0 || quiet == len(states()) {
		t.Error(quiet)
	}
}

// TestP252QuietWritten: each of what is named alone, and what is next to it.
func TestP252QuietWritten(t *testing.T) {
	for k, x := range []struct {
		p    plain
		want bool
	}{
		{plain{most: 0}, true},
		{plain{most: 0, closed: true}, true},
		{plain{most: 8, buf: []int64{1}, closed: true}, true},
		{plain{most: 0, send: []int{0}}, true}, // there is no room without a buffer
		{plain{most: 0, recv: []int{0}}, true},
		{plain{most: 0, send: []int{0}, recv: []int{1}}, false},
		{plain{most: 1, buf: []int64{4}, send: []int{0}}, true},
		{plain{most: 1, send: []int{0}}, false},
		{plain{most: 8, buf: []int64{1, 2, 3, 4, 5, 6, 7, 8}, send: []int{0, 1}}, true},
		{plain{most: 8, buf: []int64{1, 2, 3, 4, 5, 6, 7}, send: []int{0, 1}}, false},
		{plain{most: 8, recv: []int{0, 1}}, true},
		{plain{most: 8, buf: []int64{0}, recv: []int{0, 1}}, false},
		{plain{most: 1, buf: []int64{4}, recv: []int{0}}, false},
		{plain{most: 0, recv: []int{0}, closed: true}, false},
		{plain{most: 0, send: []int{0}, closed: true}, false},
		{plain{most: 1, buf: []int64{4}, send: []int{0}, closed: true}, false},
		{plain{most: 1, recv: []int{0}, closed: true}, false},
		{plain{most: 1, buf: []int64{4}, send: []int{0}, recv: []int{0}}, false},
		{plain{most: 1, send: []int{0}, recv: []int{0}}, false},
	} {
		if got := plan.Quiet(built(t, x.p, k)); got != x.want {
			t.Errorf("%+v: Quiet is %v", x.p, got)
		}
	}
}

// TestP252Wake: of each state, who is woken first, and nothing is done.
func TestP252Wake(t *testing.T) {
	each(t, func(t *testing.T, c *hchan.Chan, p plain) {
		slot, send, is := plan.Wake(c)
		if ws, wsend, wis := p.wake(); slot != ws || send != wsend || is != wis {
			t.Fatalf("%+v: Wake is %d, %v, %v, not %d, %v, %v", p, slot, send, is, ws, wsend, wis)
		}
		if got := told(c); !sameAs(got, p) {
			t.Fatalf("%+v is %+v, once it was asked", p, got)
		}
	})
}

// TestP252WakeAll: all are woken, once it is closed, those that wait to receive first, each queue in turn; nobody waits in vain then.
func TestP252WakeAll(t *testing.T) {
	each(t, func(t *testing.T, c *hchan.Chan, p plain) {
		if _, _, is := plan.Wake(c); is && !p.closed {
			t.Fatalf("%+v: one is woken of an open one", p)
		}
		if !p.closed {
			ok(t, c.Shut())
		}
		var woken [2][]int
		for range len(p.send) + len(p.recv) {
			slot, send, is := plan.Wake(c)
			if !is || send && len(c.Row(false)) > 0 || plan.Quiet(c) {
				t.Fatalf("%+v: Wake is %d, %v, %v", p, slot, send, is)
			}
			ok(t, c.Deq(send, slot))
			if send {
				woken[0] = append(woken[0], slot)
			} else {
				woken[1] = append(woken[1], slot)
			}
		}
		if !slices.Equal(woken[0], p.send) || !slices.Equal(woken[1], p.recv) {
			t.Fatalf("%+v: woken %v", p, woken)
		}
		if slot, send, is := plan.Wake(c); slot != 0 || send || is || !plan.Quiet(c) {
			t.Fatalf("%+v: Wake is %d, %v, %v of none", p, slot, send, is)
		}
	})
}

// TestP252WakeSlot: each slot may be the first one, of either queue.
func TestP252WakeSlot(t *testing.T) {
	for s := range api.MaxPool {
		c := made(t, s%(api.MaxCap+1))
		ok(t, c.Enq(true, s), c.Enq(true, (s+1)%api.MaxPool), c.Enq(false, (s+2)%api.MaxPool), c.Enq(false, s), c.Shut())
		for k, want := range []struct {
			slot int
			send bool
		}{{(s + 2) % api.MaxPool, false}, {s, false}, {s, true}, {(s + 1) % api.MaxPool, true}} {
			slot, send, is := plan.Wake(c)
			if slot != want.slot || send != want.send || !is {
				t.Fatalf("%d of %d: Wake is %d, %v, %v", k, s, slot, send, is)
			}
			ok(t, c.Deq(send, slot))
		}
	}
}

func TestP252Nil(t *testing.T) {
	if plan.Quiet(nil) {
		t.Error("none is quiet")
	}
	if slot, send, is := plan.Wake(nil); slot != 0 || send || is {
		t.Error(slot, send, is)
	}
}

// TestP252FollowsTheChannel: what is told hangs on how the channel is as it is asked, whatever was done to it.
func TestP252FollowsTheChannel(t *testing.T) {
	for seed := range 45 {
		c := made(t, seed%(api.MaxCap+1))
		for k := range 400 {
			x := sample.Mix(seed<<20 + k)
			send, slot := x>>8%2 == 0, int(x>>16%7)
			switch x % 8 {
			case 0, 1:
				c.Put(int64(x >> 40))
			case 2:
				c.Take()
			case 3, 4, 5:
				c.Enq(send, slot)
			case 6:
				c.Deq(send, slot)
			default:
				if x>>32%16 == 0 {
					c.Shut()
				}
			}
			seen(t, c, told(c))
			seen(t, c.Copy(), told(c))
		}
	}
}

// TestP253Waits: one that is put into the queue of a quiet one leaves it quiet, just if Look tells it to wait.
func TestP253Waits(t *testing.T) {
	each(t, func(t *testing.T, c *hchan.Chan, p plain) {
		if !plan.Quiet(c) {
			return
		}
		for _, send := range both {
			d := c.Copy()
			ok(t, d.Enq(send, 700))
			if waits := plan.Look(c, send).Do == api.PlanWait; plan.Quiet(d) != waits {
				t.Fatalf("%+v: Quiet is %v behind Enq(%v), Look tells %+v", p, plan.Quiet(d), send, plan.Look(c, send))
			}
		}
	})
}

// street is a channel to which operations come that do as Look tells; what each one sends is told by its number.
type street struct {
	c         *hchan.Chan
	came      int // how many came: each has a slot of its own, as long as it waits
	vals      map[int]int64
	sent, got []int64
}

func (s *street) copied() *street {
	d := *s
	d.c, d.vals, d.sent, d.got = s.c.Copy(), map[int]int64{}, slices.Clone(s.sent), slices.Clone(s.got)
	for k, v := range s.vals {
		d.vals[k] = v
	}
	return &d
}

// free is the next slot that is in neither queue.
func (s *street) free() int {
	for {
		s.came++
		if k := s.came % api.MaxPool; !s.c.Has(true, k) && !s.c.Has(false, k) {
			return k
		}
	}
}

// claim does what an operation does that takes slot out of the other queue.
func (s *street) claim(t *testing.T, send bool, slot int, v int64) {
	t.Helper()
	ok(t, s.c.Deq(!send, slot))
	if !send {
		v = s.vals[slot]
	}
	s.sent = append(s.sent, v)
	if plan.Swaps(s.c, send) {
		var e api.Errno
		v, e = s.c.Swap(v) // it is full: else one waits in vain
		ok(t, e)
	}
	s.got = append(s.got, v)
}

// comes lets one come, to send or to receive, that does as Look tells.
func (s *street) comes(t *testing.T, send bool) {
	t.Helper()
	slot := s.free()
	v := int64(s.came)
	x := plan.Look(s.c, send)
	switch {
	case x.Do == api.PlanClaim:
		s.claim(t, send, x.Slot, v)
	case x.Do == api.PlanBuffer && send:
		ok(t, s.c.Put(v))
		s.sent = append(s.sent, v)
	case x.Do == api.PlanBuffer:
		v, e := s.c.Take()
		ok(t, e)
		s.got = append(s.got, v)
	case x.Do == api.PlanWait:
		ok(t, s.c.Enq(send, slot))
		if send {
			s.vals[slot] = v
		}
	default:
		t.Fatal(x)
	}
}

// still fails, unless the channel is quiet, and its values went out in the order in which they came in.
func (s *street) still(t *testing.T) {
	t.Helper()
	p := told(s.c)
	if !plan.Quiet(s.c) || !p.quiet() {
		t.Fatalf("%+v is not quiet", p)
	}
	if !slices.Equal(append(slices.Clone(s.got), p.buf...), s.sent) {
		t.Fatalf("%+v: %v went in, %v came out", p, s.sent, s.got)
	}
}

// goes lets one go that waits: the first one of that queue, or the last one, which got what it waits for elsewhere.
func (s *street) goes(t *testing.T, send, last bool) {
	t.Helper()
	row := s.c.Row(send)
	if len(row) == 0 {
		return
	}
	slot := row[0]
	if last {
		slot = row[len(row)-1]
	}
	ok(t, s.c.Deq(send, slot))
}

// TestP253ShortRows: over each capacity up to 3, all rows of 8 of those that come, and go.
func TestP253ShortRows(t *testing.T) {
	var on func(s *street, left int)
	on = func(s *street, left int) {
		s.still(t)
		if left == 0 {
			return
		}
		for _, send := range both {
			d := s.copied()
			d.comes(t, send)
			on(d, left-1)
		}
		for _, send := range both {
			if len(s.c.Row(send)) > 0 {
				d := s.copied()
				d.goes(t, send, left%2 == 0)
				on(d, left-1)
			}
		}
	}
	for most := range 4 {
		on(&street{c: made(t, most), vals: map[int]int64{}}, 8)
	}
}

// TestP253LongRows: long rows of no order, of which more come to send, or to receive; at the end it is closed, and who waits is woken.
func TestP253LongRows(t *testing.T) {
	for seed := range 90 {
		s := &street{c: made(t, seed%(api.MaxCap+1)), vals: map[int]int64{}}
		for k := range 300 {
			x := sample.Mix(seed<<20 + k)
			send := x>>8%uint64(5) < uint64(1+(seed+k/40)%4)
			if x%6 == 0 {
				s.goes(t, x>>16%2 == 0, x>>24%2 == 0)
			} else {
				s.comes(t, send)
			}
			s.still(t)
		}
		ok(t, s.c.Shut())
		for {
			slot, send, is := plan.Wake(s.c)
			if !is {
				break
			}
			ok(t, s.c.Deq(send, slot))
		}
		s.still(t)
	}
}
