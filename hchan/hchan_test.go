package hchan_test

import (
	"math"
	"slices"
	"testing"

	"tollbar/api"
	"tollbar/hchan"
	"tollbar/list"
	"tollbar/ring"
	"tollbar/sample"
)

// both are to send, and to receive.
var both = []bool{true, false}

// edges are values at which one could go wrong.
func edges() []int64 {
	return []int64{0, 1, -1, 7, 1 << 31, 1 << 32, -1 << 32, 1<<53 + 1, math.MaxInt64, math.MaxInt64 - 1, math.MinInt64, math.MinInt64 + 1}
}

// outside are no numbers of slots; many have the low bits of one.
func outside() []int {
	return []int{-1, -2, -1023, -1024, 1024, 1025, 2047, 1 << 16, 1 << 31, 1 << 32, 1<<32 + 1, 1<<32 + 5, -1 << 32, -1<<32 + 5, 1 << 62, math.MaxInt, math.MinInt}
}

// plain is a channel as the chapter's words tell it.
type plain struct {
	most       int
	buf        []int64
	send, recv []int
	closed     bool
}

func (p *plain) row(send bool) *[]int {
	if send {
		return &p.send
	}
	return &p.recv
}

func (p *plain) put(v int64) api.Errno {
	if len(p.buf) == p.most {
		return api.ErrFull
	}
	p.buf = append(p.buf, v)
	return api.OK
}

func (p *plain) take() (int64, api.Errno) {
	if len(p.buf) == 0 {
		return 0, api.ErrNone
	}
	v := p.buf[0]
	p.buf = slices.Clone(p.buf[1:])
	return v, api.OK
}

func (p *plain) swap(v int64) (int64, api.Errno) {
	if len(p.buf) < p.most || p.most == 0 {
		return 0, api.ErrNone
	}
	first, _ := p.take()
	return first, p.put(v)
}

func (p *plain) enq(send bool, slot int) api.Errno {
	row := p.row(send)
	switch {
	case slot < 0 || slot > 1023:
		return api.ErrArg
	case slices.Contains(*row, slot):
		return api.ErrHave
	}
	*row = append(*row, slot)
	return api.OK
}

func (p *plain) deq(send bool, slot int) api.Errno {
	row := p.row(send)
	at := slices.Index(*row, slot)
	if at < 0 {
		return api.ErrNone
	}
	*row = slices.Delete(slices.Clone(*row), at, at+1)
	return api.OK
}

func (p *plain) shut() api.Errno {
	if p.closed {
		return api.ErrHave
	}
	p.closed = true
	return api.OK
}

func (p *plain) copied() *plain {
	return &plain{p.most, slices.Clone(p.buf), slices.Clone(p.send), slices.Clone(p.recv), p.closed}
}

// made answers a channel of that capacity, and what it is by the chapter's words.
func made(t *testing.T, most int) (*hchan.Chan, *plain) {
	t.Helper()
	c, e := hchan.New(most)
	if c == nil || e != api.OK {
		t.Fatalf("New(%d) is %v, %v", most, c, e)
	}
	return c, &plain{most: most}
}

// same fails, unless c is as p tells it.
func same(t *testing.T, c *hchan.Chan, p *plain) {
	t.Helper()
	if c.Len() != len(p.buf) || c.Cap() != p.most || c.Closed() != p.closed {
		t.Fatalf("%d of %d, closed %v, not %d of %d, %v", c.Len(), c.Cap(), c.Closed(), len(p.buf), p.most, p.closed)
	}
	if got := c.Buffer(); !slices.Equal(got, p.buf) {
		t.Fatalf("Buffer is %v, not %v", got, p.buf)
	}
	v, is := c.Head()
	if want := len(p.buf) > 0; is != want || is && v != p.buf[0] || !is && v != 0 {
		t.Fatalf("Head is %d, %v, of %v", v, is, p.buf)
	}
	for _, send := range both {
		row := *p.row(send)
		if got := c.Row(send); !slices.Equal(got, row) {
			t.Fatalf("Row(%v) is %v, not %v", send, got, row)
		}
		s, is := c.Front(send)
		if want := len(row) > 0; is != want || is && s != row[0] || !is && s != 0 {
			t.Fatalf("Front(%v) is %d, %v, of %v", send, s, is, row)
		}
	}
}

// has fails, unless c has just those slots in its queues that p has, of those asked for.
func has(t *testing.T, c *hchan.Chan, p *plain, slots ...int) {
	t.Helper()
	for _, send := range both {
		for _, s := range slots {
			if got, want := c.Has(send, s), slices.Contains(*p.row(send), s); got != want {
				t.Fatalf("Has(%v, %d) is %v", send, s, got)
			}
		}
	}
}

func put(t *testing.T, c *hchan.Chan, p *plain, v int64) {
	t.Helper()
	if got, want := c.Put(v), p.put(v); got != want {
		t.Fatalf("Put(%d) is %v, not %v", v, got, want)
	}
}

func take(t *testing.T, c *hchan.Chan, p *plain) {
	t.Helper()
	v, e := c.Take()
	if wv, we := p.take(); v != wv || e != we {
		t.Fatalf("Take is %d, %v, not %d, %v", v, e, wv, we)
	}
}

func swap(t *testing.T, c *hchan.Chan, p *plain, v int64) {
	t.Helper()
	first, e := c.Swap(v)
	if wf, we := p.swap(v); first != wf || e != we {
		t.Fatalf("Swap(%d) is %d, %v, not %d, %v", v, first, e, wf, we)
	}
}

func enq(t *testing.T, c *hchan.Chan, p *plain, send bool, slot int) {
	t.Helper()
	if got, want := c.Enq(send, slot), p.enq(send, slot); got != want {
		t.Fatalf("Enq(%v, %d) is %v, not %v", send, slot, got, want)
	}
}

func deq(t *testing.T, c *hchan.Chan, p *plain, send bool, slot int) {
	t.Helper()
	if got, want := c.Deq(send, slot), p.deq(send, slot); got != want {
		t.Fatalf("Deq(%v, %d) is %v, not %v", send, slot, got, want)
	}
}

func shut(t *testing.T, c *hchan.Chan, p *plain) {
	t.Helper()
	if got, want := c.Shut(), p.shut(); got != want {
		t.Fatalf("Shut is %v, not %v", got, want)
	}
}

// built answers a channel that is as p tells it, whose values go around by so many places.
func built(t *testing.T, p *plain, by int) *hchan.Chan {
	t.Helper()
	c, q := made(t, p.most)
	if p.most > 0 {
		for k := range by {
			put(t, c, q, int64(k))
			take(t, c, q)
		}
	}
	for _, v := range p.buf {
		put(t, c, q, v)
	}
	for _, send := range both {
		for _, s := range *p.row(send) {
			enq(t, c, q, send, s)
		}
	}
	if p.closed {
		shut(t, c, q)
	}
	same(t, c, p)
	return c
}

// states are channels of each capacity and filling, open and closed, with few that wait, and many.
func states() (l []*plain) {
	rows := [][]int{nil, {5}, {5, 3}, {1023, 0, 5}, {4, 3, 2, 1, 0}}
	for most := range api.MaxCap + 1 {
		for n := range most + 1 {
			for k := range rows {
				buf := edges()[:n]
				l = append(l, &plain{most, buf, rows[k], rows[(k+n+most)%len(rows)], (k+n)%2 == 0})
			}
		}
	}
	return l
}

// each does all that is to be done with a channel of each state.
func each(t *testing.T, do func(c *hchan.Chan, p *plain)) {
	t.Helper()
	for k, p := range states() {
		q := p.copied()
		do(built(t, q, k%11), q)
	}
}

func TestExample(t *testing.T) {
	c, _ := made(t, 0)
	if e := [...]api.Errno{c.Enq(true, 5), c.Enq(true, 3), c.Enq(false, 5), c.Deq(true, 5)}; e != [4]api.Errno{} {
		t.Error(e)
	}
	if s, is := c.Front(true); s != 3 || !is {
		t.Error(s, is)
	}
	if s, is := c.Front(false); s != 5 || !is {
		t.Error(s, is)
	}
	if e := [...]api.Errno{c.Shut(), c.Shut()}; e != [...]api.Errno{api.OK, api.ErrHave} {
		t.Error(e)
	}
}

// TestP221New: of each capacity that may be there is a channel, open, empty; of any other there is layer 3's error.
func TestP221New(t *testing.T) {
	for most := -3; most < 300; most++ {
		c, e := hchan.New(most)
		if _, want := ring.New(most); e != want || (c == nil) != (e != api.OK) {
			t.Fatalf("New(%d) is %v, %v", most, c, e)
		}
		if most < 0 || most > 8 {
			if e != api.ErrArg {
				t.Errorf("New(%d) is %v", most, e)
			}
			continue
		}
		same(t, c, &plain{most: most})
		has(t, c, &plain{}, 0, 1, 1023, -1)
	}
	for _, most := range append(outside(), 1<<32+8, -1<<32+8, 256+8, 1<<16+8) {
		if c, e := hchan.New(most); c != nil || e != api.ErrArg {
			t.Errorf("New(%d) is %v, %v", most, c, e)
		}
	}
}

// TestP221NewIsOfItsOwn: what is done to one channel is done to no other.
func TestP221NewIsOfItsOwn(t *testing.T) {
	a, p := made(t, 2)
	b, q := made(t, 2)
	put(t, a, p, 4)
	enq(t, a, p, true, 1)
	enq(t, a, p, false, 2)
	shut(t, a, p)
	same(t, b, q)
	put(t, b, q, 6)
	enq(t, b, q, true, 7)
	same(t, a, p)
	same(t, b, q)
}

// TestP221Put: up to the capacity all goes in, and nothing beyond, whatever it is, closed or not.
func TestP221Put(t *testing.T) {
	each(t, func(c *hchan.Chan, p *plain) {
		for _, v := range edges() {
			put(t, c, p, v)
			same(t, c, p)
		}
		if len(p.buf) != p.most {
			t.Fatal(p.buf, p.most)
		}
	})
}

// TestP221Take: all goes out in order, each once; then there is none.
func TestP221Take(t *testing.T) {
	each(t, func(c *hchan.Chan, p *plain) {
		for range p.most + 2 {
			take(t, c, p)
			same(t, c, p)
		}
		if v, e := c.Take(); v != 0 || e != api.ErrNone {
			t.Fatal(v, e)
		}
	})
}

// TestP221Swap: only one that is full, and has one, is swapped; any other is left as it is.
func TestP221Swap(t *testing.T) {
	each(t, func(c *hchan.Chan, p *plain) {
		full := p.most > 0 && len(p.buf) == p.most
		for _, v := range edges() {
			if _, e := c.Copy().Swap(v); (e == api.OK) != full || !full && e != api.ErrNone {
				t.Fatalf("%d of %d: %v", len(p.buf), p.most, e)
			}
			swap(t, c, p, v)
			same(t, c, p)
		}
	})
}

// TestP221AsRing: a row of calls answers what the buffer's own calls answer.
func TestP221AsRing(t *testing.T) {
	for seed := range 60 {
		most := seed % (api.MaxCap + 1)
		c, _ := made(t, most)
		r, _ := ring.New(most)
		for k := range 300 {
			x := sample.Mix(seed<<20 + k)
			v := int64(sample.Mix(seed<<20+k+1<<30)) >> (x >> 8 % 64)
			switch x % 5 {
			case 0, 1:
				if a, b := c.Put(v), r.Put(v); a != b {
					t.Fatal(a, b)
				}
			case 2, 3:
				a, e := c.Take()
				if b, f := r.Take(); a != b || e != f {
					t.Fatal(a, e, b, f)
				}
			default:
				a, e := c.Swap(v)
				if b, f := r.Swap(v); a != b || e != f {
					t.Fatal(a, e, b, f)
				}
			}
			same(t, c, &plain{most: most, buf: r.List()})
		}
	}
}

func TestP221Nil(t *testing.T) {
	var c *hchan.Chan
	if e := c.Put(4); e != api.ErrNil {
		t.Error(e)
	}
	if v, e := c.Take(); v != 0 || e != api.ErrNil {
		t.Error(v, e)
	}
	if v, e := c.Swap(4); v != 0 || e != api.ErrNil {
		t.Error(v, e)
	}
	if v, is := c.Head(); v != 0 || is {
		t.Error(v, is)
	}
	if n, most, l := c.Len(), c.Cap(), c.Buffer(); n != 0 || most != 0 || len(l) != 0 {
		t.Error(n, most, l)
	}
}

// TestP221BufferIsNew: a list that was answered is nobody's but the asker's.
func TestP221BufferIsNew(t *testing.T) {
	each(t, func(c *hchan.Chan, p *plain) {
		spoilt, kept, was := c.Buffer(), c.Buffer(), slices.Clone(p.buf)
		for k := range spoilt {
			spoilt[k]++
		}
		_ = append(spoilt, 99)
		same(t, c, p)
		swap(t, c, p, 77)
		take(t, c, p)
		same(t, c, p)
		if !slices.Equal(kept, was) {
			t.Fatal(kept, was)
		}
	})
}

// TestP222EnqEach: each slot may be there, in either queue, and behind all others.
func TestP222EnqEach(t *testing.T) {
	for _, send := range both {
		for s := range api.MaxPool {
			c, p := made(t, s%(api.MaxCap+1))
			enq(t, c, p, send, 7)
			enq(t, c, p, send, s)
			enq(t, c, p, send, 1023-s)
			enq(t, c, p, send, 500)
			same(t, c, p)
			has(t, c, p, s, 1023-s, 7, 8, 500, s+1, s-1)
		}
	}
}

// TestP222EnqWrong: what is no slot is refused, and all stays as it is.
func TestP222EnqWrong(t *testing.T) {
	each(t, func(c *hchan.Chan, p *plain) {
		for _, send := range both {
			for _, s := range outside() {
				if e := c.Enq(send, s); e != api.ErrArg {
					t.Fatalf("Enq(%v, %d) is %v", send, s, e)
				}
				if e := c.Deq(send, s); e != api.ErrNone {
					t.Fatalf("Deq(%v, %d) is %v", send, s, e)
				}
			}
		}
		same(t, c, p)
		has(t, c, p, outside()...)
	})
}

// TestP222EnqTwice: a slot stands in a queue once, but may stand in the other one too, and again when it is gone.
func TestP222EnqTwice(t *testing.T) {
	each(t, func(c *hchan.Chan, p *plain) {
		for _, send := range both {
			for _, s := range slices.Clone(*p.row(send)) {
				if e := c.Enq(send, s); e != api.ErrHave {
					t.Fatalf("Enq(%v, %d) is %v", send, s, e)
				}
				same(t, c, p)
			}
		}
		for _, s := range []int{0, 3, 5, 1023} {
			enq(t, c, p, true, s)
			enq(t, c, p, false, s)
			deq(t, c, p, true, s)
			same(t, c, p)
			enq(t, c, p, true, s)
			enq(t, c, p, true, s)
			same(t, c, p)
		}
	})
}

// TestP222Deq: wherever a slot stood, it is gone from that queue, once, and the others stay in their order.
func TestP222Deq(t *testing.T) {
	for _, send := range both {
		for n := 1; n < 7; n++ {
			for at := range n {
				c, p := made(t, 1)
				for k := range n {
					enq(t, c, p, send, 1000-7*k)
					enq(t, c, p, !send, 1000-7*k)
				}
				for range 2 {
					deq(t, c, p, send, 1000-7*at)
					same(t, c, p)
					has(t, c, p, 1000-7*at, 1000, 0)
				}
				if len(*p.row(!send)) != n {
					t.Fatal(p)
				}
			}
		}
	}
}

// TestP222DeqNotThere: a slot of the other queue alone is none of this one.
func TestP222DeqNotThere(t *testing.T) {
	each(t, func(c *hchan.Chan, p *plain) {
		for _, send := range both {
			for s := range 8 {
				if slices.Contains(*p.row(send), s) {
					continue
				}
				if e := c.Deq(send, s); e != api.ErrNone {
					t.Fatalf("Deq(%v, %d) is %v", send, s, e)
				}
			}
		}
		same(t, c, p)
	})
}

// TestP222AllSlots: all 1,024 slots wait in both queues at once, each in an order of its own, and go again.
func TestP222AllSlots(t *testing.T) {
	c, p := made(t, 0)
	for k := range api.MaxPool {
		enq(t, c, p, true, k*5%api.MaxPool)
		enq(t, c, p, false, api.MaxPool-1-k*3%api.MaxPool)
	}
	same(t, c, p)
	for k := range api.MaxPool {
		enq(t, c, p, k%2 == 0, k)
	}
	for k := range api.MaxPool {
		s, is := c.Front(k%2 == 0)
		if !is {
			t.Fatal(k)
		}
		deq(t, c, p, k%2 == 0, s)
		deq(t, c, p, k%2 == 1, s)
		if k%64 == 0 {
			same(t, c, p)
			has(t, c, p, s, k)
		}
	}
	same(t, c, p)
}

// TestP222AsList: a row of calls answers what the queues' own calls answer.
func TestP222AsList(t *testing.T) {
	for seed := range 40 {
		c, p := made(t, 3)
		queues := map[bool]*list.List{true: list.New(), false: list.New()}
		for k := range 200 {
			x := sample.Mix(seed<<20 + k)
			send, s := x%2 == 0, int(x>>8%12)-1
			if x>>40%9 == 0 {
				s = outside()[x>>16%uint64(len(outside()))]
			}
			if q := queues[send]; x>>32%3 > 0 {
				if a, b := c.Enq(send, s), q.Put(s); a != b {
					t.Fatal(send, s, a, b)
				}
			} else if a, b := c.Deq(send, s), q.Drop(s); a != b {
				t.Fatal(send, s, a, b)
			}
			p.send, p.recv = queues[true].All(), queues[false].All()
			same(t, c, p)
			has(t, c, p, -1, 0, 1, 2, 3, 4, 5, 6, 7, 8, 9, 10, 11)
		}
	}
}

// TestP222Shut: a channel that is open is closed, once; then it is, and nothing else is another.
func TestP222Shut(t *testing.T) {
	each(t, func(c *hchan.Chan, p *plain) {
		want := api.OK
		if p.closed {
			want = api.ErrHave
		}
		for range 3 {
			if e := c.Shut(); e != want || !c.Closed() {
				t.Fatal(e, want, c.Closed())
			}
			want, p.closed = api.ErrHave, true
			same(t, c, p)
		}
	})
}

func TestP222Nil(t *testing.T) {
	var c *hchan.Chan
	for _, send := range both {
		for _, s := range append(outside(), 0, 5, 1023) {
			if e := c.Enq(send, s); e != api.ErrNil {
				t.Error(e)
			}
			if e := c.Deq(send, s); e != api.ErrNil {
				t.Error(e)
			}
			if c.Has(send, s) {
				t.Error(s)
			}
		}
		if s, is := c.Front(send); s != 0 || is {
			t.Error(s, is)
		}
		if l := c.Row(send); len(l) != 0 {
			t.Error(l)
		}
	}
	if e := c.Shut(); e != api.ErrNil || c.Closed() {
		t.Error(e)
	}
	if d := c.Copy(); d != nil {
		t.Error(d)
	}
}

// TestP222RowIsNew: a row that was answered is nobody's but the asker's.
func TestP222RowIsNew(t *testing.T) {
	each(t, func(c *hchan.Chan, p *plain) {
		for _, send := range both {
			l, was := c.Row(send), slices.Clone(*p.row(send))
			for k := range l {
				l[k] = 900 + k
			}
			_ = append(l, 99)
			same(t, c, p)
			again := c.Row(send)
			for _, s := range was {
				deq(t, c, p, send, s)
			}
			enq(t, c, p, send, 77)
			if !slices.Equal(again, was) {
				t.Fatal(again, was)
			}
			same(t, c, p)
		}
	})
}

// TestP222Copy: a copy is the same; what is done to the one is not done to the other, nor to a copy of it.
func TestP222Copy(t *testing.T) {
	for turn := range 2 {
		for seed, p := range states() {
			c := built(t, p.copied(), seed%9)
			d := c.Copy()
			e := d.Copy()
			if d == nil || d == c || e == d {
				t.Fatal(d, e)
			}
			one, other := c, d
			if turn == 1 {
				one, other = d, c
			}
			same(t, d, p)
			q := p.copied()
			for k := range 25 {
				do(t, one, q, seed, k)
			}
			same(t, other, p)
			same(t, e, p)
			has(t, other, p, 0, 1, 2, 3, 4, 5, 6, 7, 1023)
			r := p.copied()
			for k := range 25 {
				do(t, other, r, seed+1000, k)
			}
			same(t, one, q)
			same(t, e, p)
		}
	}
}

// TestP222CopyClosed: whether it is closed a copy has of the one that it was made of, as it was made.
func TestP222CopyClosed(t *testing.T) {
	c, _ := made(t, 1)
	open := c.Copy()
	c.Shut()
	closed := c.Copy()
	if open.Closed() || !closed.Closed() {
		t.Fatal(open.Closed(), closed.Closed())
	}
	if e := closed.Shut(); e != api.ErrHave {
		t.Error(e)
	}
	if e := open.Shut(); e != api.OK || !open.Closed() {
		t.Error(e)
	}
}

// do does one thing to c, and to p, as a number tells it, and fails unless they are the same then.
func do(t *testing.T, c *hchan.Chan, p *plain, seed, k int) {
	t.Helper()
	x := sample.Mix(seed<<24 + k)
	send, s, v := x>>8%2 == 0, int(x>>16%7), edges()[x>>24%uint64(len(edges()))]
	switch x % 13 {
	case 0, 1, 2:
		put(t, c, p, v)
	case 3, 4:
		take(t, c, p)
	case 5:
		swap(t, c, p, v)
	case 6, 7, 8, 9:
		enq(t, c, p, send, s)
	case 10, 11:
		deq(t, c, p, send, s)
	default:
		if x>>40%8 == 0 {
			shut(t, c, p)
		}
	}
	same(t, c, p)
	has(t, c, p, 0, 1, 2, 3, 4, 5, 6, 7)
}

// deeds are things that are done to a channel, each to one part of it.
func deeds(t *testing.T) []func(c *hchan.Chan, p *plain) {
	l := []func(c *hchan.Chan, p *plain){
		func(c *hchan.Chan, p *plain) { put(t, c, p, 41) },
		func(c *hchan.Chan, p *plain) { take(t, c, p) },
		func(c *hchan.Chan, p *plain) { swap(t, c, p, 43) },
		func(c *hchan.Chan, p *plain) { shut(t, c, p) },
	}
	for _, send := range both {
		l = append(l,
			func(c *hchan.Chan, p *plain) { enq(t, c, p, send, 5) },
			func(c *hchan.Chan, p *plain) { enq(t, c, p, send, 6) },
			func(c *hchan.Chan, p *plain) { deq(t, c, p, send, 5) },
			func(c *hchan.Chan, p *plain) { deq(t, c, p, send, 3) })
	}
	return l
}

// TestP223Apart: whatever is done to one part leaves the others as they are, whatever they are.
func TestP223Apart(t *testing.T) {
	each(t, func(c *hchan.Chan, p *plain) {
		for _, deed := range deeds(t) {
			d, q := c.Copy(), p.copied()
			deed(d, q)
			same(t, d, q)
			has(t, d, q, 0, 3, 5, 6, 1023)
			for _, next := range deeds(t) {
				e, r := d.Copy(), q.copied()
				next(e, r)
				same(t, e, r)
				has(t, e, r, 0, 3, 5, 6, 1023)
			}
		}
	})
}

// TestP223StaysClosed: whatever is done, a channel that is closed is closed.
func TestP223StaysClosed(t *testing.T) {
	for most := range api.MaxCap + 1 {
		c, p := made(t, most)
		shut(t, c, p)
		for k := range 400 {
			do(t, c, p, 7000+most, k)
			if !c.Closed() || !c.Copy().Closed() || c.Shut() != api.ErrHave {
				t.Fatal(k)
			}
		}
	}
}

// TestP223StaysOpen: nothing but Shut closes one.
func TestP223StaysOpen(t *testing.T) {
	for most := range api.MaxCap + 1 {
		c, p := made(t, most)
		for k := range 400 {
			if sample.Mix((8000+most)<<24+k)%13 < 12 {
				do(t, c, p, 8000+most, k)
			}
			if c.Closed() {
				t.Fatal(k)
			}
		}
	}
}

// TestP223LongRows: long rows of calls of no order, over each capacity.
func TestP223LongRows(t *testing.T) {
	for seed := range 45 {
		c, p := made(t, seed%(api.MaxCap+1))
		for k := range 400 {
			do(t, c, p, seed, k)
		}
	}
}
