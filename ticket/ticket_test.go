package ticket_test

import (
	"math"
	"testing"

	"tollbar/api"
	"tollbar/cell"
	"tollbar/sample"
	"tollbar/ticket"
)

// fresh answers so many cells.
func fresh(t *testing.T, n int) *cell.Cells {
	t.Helper()
	c, e := cell.New(n)
	if e != api.OK {
		t.Fatal(e)
	}
	return c
}

// made answers n locks on c from base on.
func made(t *testing.T, c *cell.Cells, base, n int) *ticket.Locks {
	t.Helper()
	l, e := ticket.New(c, base, n)
	if l == nil || e != api.OK {
		t.Fatalf("New of %d cells, %d, %d is %v, %v", c.Len(), base, n, l, e)
	}
	return l
}

// numbers are what cells may have, whose tickets are around the greatest one, and around 0.
func numbers() []uint64 {
	return []uint64{0, 1, 2, 255, 256, 32767, 32768, 65534, 65535, 65536, 65537, 1<<17 - 1, 1 << 17, 1<<32 - 1, 1 << 32, 1<<48 + 65535, 1<<63 + 7, math.MaxUint64 - 1, math.MaxUint64}
}

// outside are numbers of locks that n locks have not; the low bits of some are those of locks that are there.
func outside(n int) []int {
	return []int{-1, -2, -n, -n - 1, n, n + 1, 2 * n, 300, 301, 2048, 4096, 1 << 16, 1 << 32, -1 << 32, 1 << 62, 1 << 61, 1<<63 - 1, 1<<62 + 1, -1 << 62, math.MinInt, math.MinInt + 1}
}

// places are how many cells, a base and how many locks there may be.
func places() [][3]int {
	return [][3]int{{2, 0, 1}, {3, 0, 1}, {3, 1, 1}, {4, 0, 2}, {10, 4, 3}, {11, 4, 3}, {600, 0, 300}, {601, 1, 300}, {700, 50, 299}, {4096, 0, 300}, {4096, 4094, 1}, {4096, 3496, 300}, {4096, 3000, 300}}
}

// row answers all numbers of c.
func row(c *cell.Cells) []uint64 {
	l := make([]uint64, c.Len())
	for i := range l {
		l[i] = c.Peek(i)
	}
	return l
}

// same fails, unless c has the numbers of want, and count accesses were done to it.
func same(t *testing.T, c *cell.Cells, want []uint64, count uint64) {
	t.Helper()
	for i, v := range want {
		if got := c.Peek(i); got != v {
			t.Fatalf("cell %d is %d, not %d", i, got, v)
		}
	}
	if c.Count() != count {
		t.Fatalf("Count is %d, not %d", c.Count(), count)
	}
}

func TestP51New(t *testing.T) {
	for _, x := range places() {
		c := fresh(t, x[0])
		l := made(t, c, x[1], x[2])
		if l.Len() != x[2] {
			t.Errorf("%v: Len is %d", x, l.Len())
		}
		same(t, c, make([]uint64, x[0]), 0)
	}
}

// TestP51NewLeavesCells: what the cells have stays, and is what the locks have.
func TestP51NewLeavesCells(t *testing.T) {
	c := fresh(t, 6)
	for i := range 6 {
		c.Write(i, uint64(10+i))
	}
	l := made(t, c, 1, 2)
	same(t, c, []uint64{10, 11, 12, 13, 14, 15}, 6)
	if got := l.Draw(1); got != 13 {
		t.Error(got)
	}
	same(t, c, []uint64{10, 11, 12, 14, 14, 15}, 7)
}

func TestP51NewOfNoCells(t *testing.T) {
	for _, x := range [][2]int{{0, 1}, {0, 300}, {0, 0}, {-1, 1}, {0, 301}, {math.MinInt, math.MaxInt}} {
		if l, e := ticket.New(nil, x[0], x[1]); l != nil || e != api.ErrNil {
			t.Errorf("New(nil, %d, %d) is %v, %v", x[0], x[1], l, e)
		}
	}
}

func TestP51NewWrong(t *testing.T) {
	for _, x := range [][3]int{
		{10, 0, 0}, {10, 0, -1}, {10, 0, math.MinInt}, {10, 0, -5}, {10, 10, 0}, {10, 5, -1}, // too few
		{4096, 0, 301}, {4096, 0, 302}, {4096, 0, 2048}, {4096, 0, math.MaxInt}, {4096, 0, 1 << 62}, {4096, 0, 1 << 63 >> 1}, {4096, 0, 1<<62 + 1}, {4096, 0, math.MinInt + 1}, {601, 0, 301}, {602, 0, 301}, // too many
		{10, -1, 1}, {10, -2, 1}, {10, math.MinInt, 1}, {10, math.MinInt + 1, 300}, {4096, -4096, 300}, // a base below 0
		{1, 0, 1}, {2, 1, 1}, {2, 2, 1}, {3, 2, 1}, {3, 0, 2}, {4, 1, 2}, {10, 5, 3}, {10, 10, 1}, {10, 11, 1}, {10, 9, 1}, {599, 0, 300}, {600, 1, 300}, {4096, 3497, 300}, {4096, 4095, 1}, {4096, 4096, 1}, {10, math.MaxInt, 1}, {10, math.MaxInt - 1, 1}, {10, math.MaxInt - 599, 300}, // too few cells
	} {
		c := fresh(t, x[0])
		if l, e := ticket.New(c, x[1], x[2]); l != nil || e != api.ErrArg {
			t.Errorf("New of %d cells, %d, %d is %v, %v", x[0], x[1], x[2], l, e)
		}
		same(t, c, make([]uint64, x[0]), 0)
	}
}

// TestP51NewEach: each few cells, bases and counts are refused just where the document's words say it.
func TestP51NewEach(t *testing.T) {
	for size := 1; size <= 9; size++ {
		for base := -3; base <= 12; base++ {
			for n := -3; n <= 7; n++ {
				want := api.OK
				if n < 1 || base < 0 || base+2*n > size {
					want = api.ErrArg
				}
				l, e := ticket.New(fresh(t, size), base, n)
				if e != want || (l == nil) != (e != api.OK) {
					t.Errorf("New of %d cells, %d, %d is %v, %v", size, base, n, l, e)
				}
			}
		}
	}
}

func TestP51Example(t *testing.T) {
	c := fresh(t, 2)
	l := made(t, c, 0, 1)
	if a, b := l.Draw(0), l.Draw(0); a != 0 || b != 1 {
		t.Error(a, b)
	}
	if l.Mine(0, 1) {
		t.Error("served before its turn")
	}
	l.Give(0)
	if !l.Mine(0, 1) || l.Waiting(0) != 1 {
		t.Error(l.Waiting(0))
	}
	same(t, c, []uint64{2, 1}, 5)
}

// TestP51WhichCells: each lock is on two cells of its own: the first has the next ticket, the second the one that is served.
func TestP51WhichCells(t *testing.T) {
	for _, x := range places() {
		c := fresh(t, x[0])
		l := made(t, c, x[1], x[2])
		for i := range x[0] {
			c.Write(i, sample.Mix(i))
		}
		want, count := row(c), c.Count()
		for k := range x[2] {
			next, served := x[1]+2*k, x[1]+2*k+1
			if got := l.Draw(k); got != uint16(want[next]) {
				t.Fatalf("%v: Draw(%d) is %d, not %d", x, k, got, uint16(want[next]))
			}
			want[next]++
			l.Give(k)
			want[served]++
			if !l.Mine(k, uint16(want[served])) || l.Mine(k, uint16(want[served])+1) {
				t.Fatalf("%v: Mine(%d)", x, k)
			}
			count += 4
		}
		same(t, c, want, count)
	}
}

// TestP51EachIsOneAccess: each of the three is one, of the first lock as of the last one.
func TestP51EachIsOneAccess(t *testing.T) {
	for _, x := range places() {
		c := fresh(t, x[0])
		l := made(t, c, x[1], x[2])
		for _, k := range []int{0, x[2] / 2, x[2] - 1} {
			for _, do := range []func(){
				func() { l.Draw(k) },
				func() { l.Draw(k) },
				func() { l.Mine(k, 0) },
				func() { l.Mine(k, 1) },
				func() { l.Give(k) },
				func() { l.Mine(k, 0) },
				func() { l.Give(k) },
				func() { l.Give(k) },
			} {
				n := c.Count()
				if do(); c.Count() != n+1 {
					t.Fatalf("%v: a call for lock %d is %d accesses", x, k, c.Count()-n)
				}
			}
		}
	}
}

func TestP51Draw(t *testing.T) {
	for _, v := range numbers() {
		c := fresh(t, 4)
		l := made(t, c, 1, 1)
		c.Write(1, v)
		c.Write(2, 9)
		for k := range uint64(4) {
			if got := l.Draw(0); got != uint16((v+k)%65536) {
				t.Errorf("Draw %d at %d is %d", k, v, got)
			}
		}
		same(t, c, []uint64{0, v + 4, 9, 0}, 6)
	}
}

func TestP51Mine(t *testing.T) {
	for _, v := range numbers() {
		c := fresh(t, 4)
		l := made(t, c, 1, 1)
		c.Write(1, v+3)
		c.Write(2, v)
		asked := uint64(2)
		for _, w := range numbers() {
			for _, ticket := range []uint16{uint16(w), uint16(v + 1), uint16(v - 1), uint16(v) ^ 1<<15, uint16(v) ^ 1<<8} {
				if got := l.Mine(0, ticket); got != (v%65536 == uint64(ticket)) {
					t.Errorf("Mine(%d) at %d is %v", ticket, v, got)
				}
				asked++
			}
		}
		same(t, c, []uint64{0, v + 3, v, 0}, asked)
	}
}

// TestP51MineOfEachTicket: of all tickets just the one that is served is.
func TestP51MineOfEachTicket(t *testing.T) {
	for _, v := range []uint64{0, 65535, 65536, 1<<32 + 32768} {
		c := fresh(t, 2)
		l := made(t, c, 0, 1)
		c.Write(1, v)
		for x := range uint64(65536) {
			if got := l.Mine(0, uint16(x)); got != (x == v%65536) {
				t.Fatalf("Mine(%d) at %d is %v", x, v, got)
			}
		}
	}
}

func TestP51Give(t *testing.T) {
	for _, v := range numbers() {
		c := fresh(t, 4)
		l := made(t, c, 1, 1)
		c.Write(1, 5)
		c.Write(2, v)
		for range 3 {
			l.Give(0)
		}
		same(t, c, []uint64{0, 5, v + 3, 0}, 5)
	}
}

// TestP51NotThere: locks that are not there, on either side, have no ticket and serve none, and nothing is done.
func TestP51NotThere(t *testing.T) {
	for _, x := range places() {
		c := fresh(t, x[0])
		l := made(t, c, x[1], x[2])
		for i := range x[0] {
			c.Write(i, sample.Mix(i)|1)
		}
		want, count := row(c), c.Count()
		for _, k := range outside(x[2]) {
			if k >= 0 && k < x[2] {
				continue
			}
			if got := l.Draw(k); got != 0 {
				t.Errorf("%v: Draw(%d) is %d", x, k, got)
			}
			for _, v := range append(numbers(), want[0], want[1], want[len(want)-1]) {
				if l.Mine(k, uint16(v)) {
					t.Errorf("%v: Mine(%d, %d)", x, k, uint16(v))
				}
			}
			l.Give(k)
		}
		same(t, c, want, count)
	}
}

// TestP51CellsAround: a lock that is not there does nothing to a cell that is, ahead of the locks or behind them.
func TestP51CellsAround(t *testing.T) {
	c := fresh(t, 12)
	l := made(t, c, 4, 2)
	for k := -6; k < 10; k++ {
		if k == 0 || k == 1 {
			continue
		}
		l.Draw(k)
		l.Give(k)
		if l.Mine(k, 0) || l.Free(k) {
			t.Errorf("lock %d", k)
		}
	}
	same(t, c, make([]uint64, 12), 0)
}

func TestP51Nil(t *testing.T) {
	var l *ticket.Locks
	for _, k := range append(outside(1), 0) {
		l.Give(k)
		if l.Draw(k) != 0 || l.Mine(k, 0) || l.Mine(k, 1) {
			t.Errorf("lock %d of none", k)
		}
	}
}

func TestP52Nil(t *testing.T) {
	var l *ticket.Locks
	for _, k := range append(outside(1), 0) {
		if l.Free(k) || l.Waiting(k) != 0 {
			t.Errorf("lock %d of none", k)
		}
	}
	if l.Len() != 0 {
		t.Error(l.Len())
	}
}

func TestP52Len(t *testing.T) {
	for _, size := range []int{600, 601, 4096} {
		c := fresh(t, size)
		for n := 1; n <= 300; n++ {
			for _, base := range []int{0, size - 2*n} {
				if got := made(t, c, base, n).Len(); got != n {
					t.Fatalf("Len is %d of %d locks", got, n)
				}
			}
		}
		if c.Count() != 0 {
			t.Error(c.Count())
		}
	}
}

func TestP52FreeAndWaiting(t *testing.T) {
	for _, next := range numbers() {
		for _, served := range numbers() {
			c := fresh(t, 8)
			l := made(t, c, 1, 3)
			c.Write(2, 77)
			c.Write(3, next)
			c.Write(4, served)
			c.Write(5, 78)
			want := int((next%65536 + 65536 - served%65536) % 65536)
			if got := l.Waiting(1); got != want {
				t.Errorf("Waiting at %d, %d is %d, not %d", next, served, got, want)
			}
			if got := l.Free(1); got != (next%65536 == served%65536) {
				t.Errorf("Free at %d, %d is %v", next, served, got)
			}
			same(t, c, []uint64{0, 0, 77, next, served, 78, 0, 0}, 4)
		}
	}
}

// TestP52EachLock: each lock tells of its own cells, the first as the last one.
func TestP52EachLock(t *testing.T) {
	for _, x := range places() {
		c := fresh(t, x[0])
		l := made(t, c, x[1], x[2])
		for k := range x[2] {
			if !l.Free(k) || l.Waiting(k) != 0 {
				t.Fatalf("%v: lock %d is not free from its beginning", x, k)
			}
			c.Write(x[1]+2*k, uint64(3*k+1))
			c.Write(x[1]+2*k+1, uint64(2*k+1))
		}
		n := c.Count()
		for k := range x[2] {
			if l.Waiting(k) != k || l.Free(k) != (k == 0) {
				t.Fatalf("%v: lock %d: %d wait, free is %v", x, k, l.Waiting(k), l.Free(k))
			}
		}
		if c.Count() != n {
			t.Errorf("%v: %d accesses", x, c.Count()-n)
		}
	}
}

func TestP52NotThere(t *testing.T) {
	for _, x := range places() {
		c := fresh(t, x[0])
		l := made(t, c, x[1], x[2])
		for step := range 2 {
			for _, k := range outside(x[2]) {
				if k >= 0 && k < x[2] {
					continue
				}
				if l.Free(k) || l.Waiting(k) != 0 {
					t.Errorf("%v: lock %d: %d wait, free is %v", x, k, l.Waiting(k), l.Free(k))
				}
			}
			if c.Count() != uint64(step*x[0]) {
				t.Errorf("%v: %d accesses", x, c.Count())
			}
			for i := range x[0] {
				c.Write(i, uint64(i*i+1))
			}
		}
	}
}

// TestP52MostWait: as many as a ticket tells apart wait, one more than that is as none.
func TestP52MostWait(t *testing.T) {
	for _, from := range []uint64{0, 65000, 1 << 20, math.MaxUint64 - 5} {
		c := fresh(t, 2)
		l := made(t, c, 0, 1)
		c.Write(0, from)
		c.Write(1, from)
		for k := range 65536 {
			if l.Waiting(0) != k || l.Free(0) != (k == 0) {
				t.Fatalf("from %d: %d wait, not %d", from, l.Waiting(0), k)
			}
			if got := l.Draw(0); got != uint16(from+uint64(k)) {
				t.Fatalf("from %d: Draw %d is %d", from, k, got)
			}
		}
		if l.Waiting(0) != 0 || !l.Free(0) {
			t.Errorf("from %d: %d wait", from, l.Waiting(0))
		}
	}
}

// one is somebody who draws, asks till a lock is had, gives it, and begins again; what is next hangs on at.
type one struct {
	at     int // 0: draws, 1: asks, 2: has it and gives
	ticket uint16
	turn   int
}

// crowd is some who want one lock, and who of them drew, in turn.
type crowd struct {
	all   []one
	queue []int
	drawn int
}

// step lets w do what is next, of lock k, and fails where one has it out of turn, or doesn't have it in turn.
func (c *crowd) step(t *testing.T, l *ticket.Locks, k, w int) {
	t.Helper()
	o := &c.all[w]
	switch o.at {
	case 0:
		o.ticket, o.turn, o.at = l.Draw(k), c.drawn, 1
		c.drawn++
		c.queue = append(c.queue, w)
	case 1:
		mine := l.Mine(k, o.ticket)
		if mine != (c.queue[0] == w) {
			t.Fatalf("who drew as number %d has the lock: %v, and who drew first of those that wait is %d", o.turn, mine, c.queue[0])
		}
		if mine {
			o.at = 2
		}
	default:
		l.Give(k)
		o.at = 0
		c.queue = c.queue[1:]
	}
	if l.Waiting(k) != len(c.queue) || l.Free(k) != (len(c.queue) == 0) {
		t.Fatalf("%d wait, not %d; free is %v", l.Waiting(k), len(c.queue), l.Free(k))
	}
	has := 0
	for _, o := range c.all {
		if o.at == 2 {
			has++
		}
	}
	if has > 1 {
		t.Fatalf("%d have the lock", has)
	}
}

// TestP53AllShort: over all rows of 9 steps of three, from some tickets on, one at most has the lock, as they drew.
func TestP53AllShort(t *testing.T) {
	const long = 9
	rows := 1
	for range long {
		rows *= 3
	}
	for _, from := range []uint64{0, 65534, 65535, 1<<20 - 1} {
		for n := range rows {
			c := fresh(t, 2)
			l := made(t, c, 0, 1)
			c.Write(0, from)
			c.Write(1, from)
			all := &crowd{all: make([]one, 3)}
			for k, left := 0, n; k < long; k, left = k+1, left/3 {
				all.step(t, l, 0, left%3)
			}
			if c.Count() != long+2 {
				t.Fatalf("%d accesses", c.Count())
			}
		}
	}
}

// TestP53LongRows: many want several locks, each one behind the other, over many steps and around the greatest ticket.
func TestP53LongRows(t *testing.T) {
	for _, many := range []int{1, 2, 3, 7, 40} {
		c := fresh(t, 13)
		l := made(t, c, 3, 4)
		locks := make([]crowd, 4)
		for k := range locks {
			locks[k].all = make([]one, many)
			from := uint64(65536*(k+1)) - uint64(many)
			c.Write(3+2*k, from)
			c.Write(3+2*k+1, from+uint64(k)<<32)
		}
		for n := range 20000 {
			luck := sample.Mix(n*64 + many)
			k := int(luck % 4)
			locks[k].step(t, l, k, int(luck>>8%uint64(many)))
		}
		for k := range locks {
			if locks[k].drawn < 2*many {
				t.Errorf("lock %d was drawn just %d times", k, locks[k].drawn)
			}
		}
	}
}

// TestP53MostAtOnce: one fewer than tickets tell apart hold or wait at once, and each has the lock in turn, alone.
func TestP53MostAtOnce(t *testing.T) {
	const most = 65535
	for _, from := range []uint64{0, 1, 40000, 1 << 40} {
		c := fresh(t, 2)
		l := made(t, c, 0, 1)
		c.Write(0, from)
		c.Write(1, from)
		tickets := make([]uint16, most)
		for k := range tickets {
			tickets[k] = l.Draw(0)
		}
		for k, ticket := range tickets {
			if !l.Mine(0, ticket) {
				t.Fatalf("from %d: number %d has not the lock in its turn", from, k)
			}
			for _, far := range []int{1, 2, 255, 256, 32768, most - 1} {
				if other := tickets[(k+far)%most]; l.Mine(0, other) {
					t.Fatalf("from %d: ticket %d has the lock, and ticket %d too", from, ticket, other)
				}
			}
			l.Give(0)
		}
		if !l.Free(0) {
			t.Error("not free")
		}
	}
}
