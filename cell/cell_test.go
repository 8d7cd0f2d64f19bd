package cell_test

import (
	"math"
	"math/big"
	"testing"

	"tollbar/api"
	"tollbar/cell"
	"tollbar/sample"
)

const top = math.MaxUint64

// numbers are some at both ends of 64 bits, and between.
func numbers() []uint64 {
	return []uint64{0, 1, 2, 5, 1 << 16, 1<<32 - 1, 1 << 32, 1<<63 - 1, 1 << 63, 1<<63 + 1, top - 1, top}
}

// sizes are how many cells there may be: the fewest, the most, and some between.
func sizes() []int { return []int{1, 2, 3, 7, 64, 300, 4095, api.MaxCells} }

// outside are numbers of cells that n cells have not; the low bits of some are those of cells that are there.
func outside(n int) []int {
	return []int{-1, -2, -n, -n - 1, n, n + 1, 2 * n, 4096, 4097, 8192, 1 << 16, 1 << 31, 1<<32 - 1, 1 << 32, -1 << 32, math.MaxInt, math.MaxInt - 1, math.MinInt, math.MinInt + 1}
}

// sum is a and b modulo 2^64, by numbers without an end.
func sum(a, b uint64) uint64 {
	x := new(big.Int).Add(new(big.Int).SetUint64(a), new(big.Int).SetUint64(b))
	return x.Mod(x, new(big.Int).Lsh(big.NewInt(1), 64)).Uint64()
}

// made answers n cells.
func made(t *testing.T, n int) *cell.Cells {
	t.Helper()
	c, e := cell.New(n)
	if c == nil || e != api.OK {
		t.Fatalf("New(%d) is %v, %v", n, c, e)
	}
	return c
}

// plain is cells as the document's words tell them.
type plain struct {
	row   []uint64
	count uint64
}

// copied answers a plain one that is the same.
func (p plain) copied() *plain { return &plain{append([]uint64(nil), p.row...), p.count} }

// same fails, unless all that c tells without an access is as p has it, and asking it was no access.
func same(t *testing.T, c *cell.Cells, p *plain) {
	t.Helper()
	if c.Len() != len(p.row) {
		t.Fatalf("Len is %d, not %d", c.Len(), len(p.row))
	}
	for i, v := range p.row {
		if got := c.Peek(i); got != v {
			t.Fatalf("Peek(%d) of %d is %d, not %d", i, len(p.row), got, v)
		}
	}
	for range 2 {
		if got := c.Count(); got != p.count {
			t.Fatalf("Count is %d, not %d", got, p.count)
		}
	}
}

// step does one access, of 0 to 3, to cell i of both, and fails unless it answers the same; which of the numbers are equal hangs on k.
func step(t *testing.T, c *cell.Cells, p *plain, do, i int, k int) {
	t.Helper()
	there := i >= 0 && i < len(p.row)
	var was, now uint64
	if there {
		was, now = p.row[i], p.row[i]
		p.count++
	}
	v := sample.Mix(k)
	var got, want uint64
	var done, must bool
	switch do {
	case 0:
		got, want = c.Read(i), was
	case 1:
		now = v
		c.Write(i, v)
	case 2:
		old := was
		if k%3 == 0 {
			old ^= 1 << (k % 64)
		}
		if must = there && old == was; must {
			now = v
		}
		done = c.Cas(i, old, v)
	default:
		now = sum(was, v)
		got, want = c.Add(i, v), was
	}
	if there {
		p.row[i] = now
	}
	if got != want || done != must {
		t.Fatalf("%d cells, cell %d, which is %d: what %d does with %d is %d, %v, not %d, %v", len(p.row), i, was, do, v, got, done, want, must)
	}
}

func TestP41New(t *testing.T) {
	for _, n := range sizes() {
		same(t, made(t, n), &plain{row: make([]uint64, n)})
	}
	for _, n := range []int{0, -1, -2, -4096, math.MinInt, math.MinInt + 1, 4097, 4098, 8192, 1 << 16, 1<<32 + 1, 1 << 32, -1<<32 + 1, math.MaxInt} {
		if c, e := cell.New(n); c != nil || e != api.ErrArg {
			t.Errorf("New(%d) is %v, %v", n, c, e)
		}
	}
}

func TestP41NewIsOfItsOwn(t *testing.T) {
	a, b := made(t, 2), made(t, 2)
	a.Write(1, 5)
	same(t, a, &plain{[]uint64{0, 5}, 1})
	same(t, b, &plain{row: []uint64{0, 0}})
}

func TestP41Example(t *testing.T) {
	c := made(t, 4)
	if v := c.Add(3, 5); v != 0 {
		t.Error(v)
	}
	if !c.Cas(3, 5, 9) || c.Cas(3, 5, 7) {
		t.Error(c.Peek(3))
	}
	if v := c.Read(3); v != 9 {
		t.Error(v)
	}
	if c.Count() != 4 {
		t.Error(c.Count())
	}
}

// TestP41FirstAndLast: of each count of cells, the first and the last one can be written and read, and are not each other.
func TestP41FirstAndLast(t *testing.T) {
	for _, n := range sizes() {
		for _, i := range []int{0, n / 2, n - 1} {
			c, p := made(t, n), &plain{row: make([]uint64, n)}
			for _, v := range numbers() {
				c.Write(i, v)
				if got := c.Read(i); got != v {
					t.Fatalf("%d cells: Read(%d) is %d, not %d", n, i, got, v)
				}
				p.row[i] = v
				p.count += 2
				same(t, c, p)
			}
		}
	}
}

// TestP41EachCell: each cell keeps what is written there, whatever is written elsewhere.
func TestP41EachCell(t *testing.T) {
	for _, n := range sizes() {
		c, p := made(t, n), &plain{row: make([]uint64, n)}
		for i := range n {
			step(t, c, p, 1, n-1-i, i)
		}
		for i := range n {
			step(t, c, p, 0, i, i)
		}
		same(t, c, p)
	}
}

func TestP41Cas(t *testing.T) {
	for _, is := range numbers() {
		for _, old := range numbers() {
			for _, fresh := range numbers() {
				c := made(t, 3)
				c.Write(1, is)
				p := &plain{[]uint64{0, is, 0}, 2}
				if old == is {
					p.row[1] = fresh
				}
				if done := c.Cas(1, old, fresh); done != (old == is) {
					t.Fatalf("Cas(%d, %d) of %d is %v", old, fresh, is, done)
				}
				same(t, c, p)
			}
		}
	}
}

// TestP41CasOfTheSame: one that is to leave the number as it is tells whether it is there, and is an access.
func TestP41CasOfTheSame(t *testing.T) {
	for _, v := range numbers() {
		c := made(t, 1)
		c.Write(0, v)
		if !c.Cas(0, v, v) || !c.Cas(0, v, v) || c.Cas(0, v+1, v+1) || c.Cas(0, v^1<<63, v) {
			t.Errorf("Cas of %d", v)
		}
		same(t, c, &plain{[]uint64{v}, 5})
	}
}

func TestP41Add(t *testing.T) {
	for _, is := range numbers() {
		for _, v := range numbers() {
			c := made(t, 3)
			c.Write(1, is)
			if was := c.Add(1, v); was != is {
				t.Fatalf("Add(%d) to %d is %d", v, is, was)
			}
			same(t, c, &plain{[]uint64{0, sum(is, v), 0}, 2})
		}
	}
}

// TestP41AddGoesAround: past the end of 64 bits it goes on from 0, and no other cell is touched by that.
func TestP41AddGoesAround(t *testing.T) {
	c := made(t, 3)
	c.Write(1, top)
	for _, x := range []struct{ more, was, now uint64 }{{0, top, top}, {1, top, 0}, {top, 0, top}, {top, top, top - 1}, {3, top - 1, 1}, {1 << 63, 1, 1<<63 + 1}, {1 << 63, 1<<63 + 1, 1}} {
		if was := c.Add(1, x.more); was != x.was || c.Peek(1) != x.now {
			t.Errorf("Add(%d) is %d, and leaves %d, not %d and %d", x.more, was, c.Peek(1), x.was, x.now)
		}
	}
	same(t, c, &plain{[]uint64{0, 1, 0}, 8})
}

// TestP41NotThere: cells that are not there, on either side, answer 0 and false, and are no access.
func TestP41NotThere(t *testing.T) {
	for _, n := range sizes() {
		c, p := made(t, n), &plain{row: make([]uint64, n)}
		for i := range n {
			step(t, c, p, 1, i, i)
		}
		for k, i := range outside(n) {
			if i >= 0 && i < n {
				continue
			}
			if v := c.Read(i); v != 0 {
				t.Errorf("%d cells: Read(%d) is %d", n, i, v)
			}
			c.Write(i, sample.Mix(k))
			if v := c.Add(i, sample.Mix(k)); v != 0 {
				t.Errorf("%d cells: Add(%d) is %d", n, i, v)
			}
			if c.Cas(i, 0, 1) || c.Cas(i, 0, 0) || c.Cas(i, sample.Mix(k), sample.Mix(k)) {
				t.Errorf("%d cells: Cas(%d) is true", n, i)
			}
			if v := c.Peek(i); v != 0 {
				t.Errorf("%d cells: Peek(%d) is %d", n, i, v)
			}
		}
		same(t, c, p)
	}
}

func TestP41Nil(t *testing.T) {
	var c *cell.Cells
	for _, i := range append(outside(1), 0) {
		c.Write(i, 5)
		if c.Read(i) != 0 || c.Cas(i, 0, 5) || c.Cas(i, 0, 0) || c.Add(i, 5) != 0 {
			t.Errorf("cell %d of none", i)
		}
	}
}

func TestP42Nil(t *testing.T) {
	var c *cell.Cells
	for _, i := range append(outside(1), 0) {
		if c.Peek(i) != 0 {
			t.Errorf("cell %d of none", i)
		}
	}
	if c.Len() != 0 || c.Count() != 0 || c.Copy() != nil {
		t.Error(c.Len(), c.Count(), c.Copy())
	}
}

// TestP42Count: each access is one, done or not, of whichever cell; nothing else is.
func TestP42Count(t *testing.T) {
	c := made(t, 2)
	for k, do := range []func(){
		func() { c.Read(0) },
		func() { c.Read(1) },
		func() { c.Write(0, 0) },
		func() { c.Write(1, 7) },
		func() { c.Cas(1, 7, 8) },
		func() { c.Cas(1, 7, 8) },
		func() { c.Cas(1, 8, 8) },
		func() { c.Add(0, 0) },
		func() { c.Add(0, top) },
		func() { c.Add(0, 1) },
	} {
		do()
		for range 2 {
			c.Peek(0)
			c.Peek(1)
			c.Peek(2)
			c.Peek(-1)
			c.Len()
			c.Copy().Read(0)
			c.Read(2)
			c.Write(-1, 1)
			c.Cas(2, 0, 0)
			c.Add(-1, 1)
			if got := c.Count(); got != uint64(k+1) {
				t.Fatalf("Count is %d behind access %d", got, k)
			}
		}
	}
}

// TestP42Copy: of each count of cells, a copy is the same, counts on from the same, and both go on apart.
func TestP42Copy(t *testing.T) {
	for _, n := range sizes() {
		c, p := made(t, n), &plain{row: make([]uint64, n)}
		same(t, c.Copy(), p)
		for k := range n + 3 {
			step(t, c, p, k%4, int(sample.Mix(k)%uint64(n)), k)
		}
		d, q := c.Copy(), p.copied()
		if d == c {
			t.Fatal("a copy is the cells themselves")
		}
		same(t, d, q)
		for do := range 4 {
			for _, i := range []int{0, n - 1, n, -1} {
				step(t, c, p, do, i, 3*do+i+1)
			}
		}
		same(t, d, q)
		same(t, c, p)
		for do := range 4 {
			step(t, d, q, 3-do, n/2, 3*do+2)
		}
		same(t, c, p)
		same(t, d, q)
		same(t, d.Copy().Copy(), q)
	}
}

// TestP43AllShort holds cells against a plain row, over all rows of 5 accesses to 2 cells and one that is not there.
func TestP43AllShort(t *testing.T) {
	const long, kinds = 5, 4 * 3
	rows := 1
	for range long {
		rows *= kinds
	}
	for n := range rows {
		c, p := made(t, 2), &plain{row: make([]uint64, 2)}
		for k, left := 0, n; k < long; k, left = k+1, left/kinds {
			step(t, c, p, left%4, left/4%3, n+k)
		}
		same(t, c, p)
	}
}

// TestP43LongRows holds cells against a plain row over many accesses.
func TestP43LongRows(t *testing.T) {
	for _, n := range []int{1, 2, 5, 64} {
		c, p := made(t, n), &plain{row: make([]uint64, n)}
		for k := range 3000 {
			luck := sample.Mix(n*10000 + k)
			step(t, c, p, int(luck%4), int(luck>>8%uint64(n+2))-1, k)
			same(t, c, p)
		}
	}
}

// TestP43CasRow: over all rows of 5 Cas from a number to another one, of numbers below 3, those that are done join, each to the one ahead, and no more could be.
func TestP43CasRow(t *testing.T) {
	hops := [][2]uint64{{0, 1}, {0, 2}, {1, 0}, {1, 2}, {2, 0}, {2, 1}}
	const long = 5
	rows := 1
	for range long {
		rows *= len(hops)
	}
	for n := range rows {
		c := made(t, 3)
		var at uint64
		for k, left := 0, n; k < long; k, left = k+1, left/len(hops) {
			hop := hops[left%len(hops)]
			done := c.Cas(1, hop[0], hop[1])
			if done != (hop[0] == at) {
				t.Fatalf("row %d: the Cas from %d to %d, at %d, is %v", n, hop[0], hop[1], at, done)
			}
			if done {
				at = hop[1]
			}
		}
		same(t, c, &plain{[]uint64{0, at, 0}, long})
	}
}

// TestP43CasOnce: of many from one number to others, just the first one is done.
func TestP43CasOnce(t *testing.T) {
	for _, from := range numbers() {
		c := made(t, 1)
		c.Write(0, from)
		for k := range uint64(20) {
			if done := c.Cas(0, from, from+1+k); done != (k == 0) {
				t.Fatalf("Cas %d from %d is %v", k, from, done)
			}
		}
		same(t, c, &plain{[]uint64{from + 1}, 21})
	}
}

// TestP43AddsTellUnlike: additions of one cell, up to its end, tell unlike numbers, whatever else is done between that doesn't change it.
func TestP43AddsTellUnlike(t *testing.T) {
	for _, by := range []uint64{1, 2, 3, 1 << 16, 1 << 54, 1 << 55, 1<<62 + 1, top} {
		n := min(1000, top/by)
		c, p := made(t, 2), &plain{[]uint64{top - n*by, 0}, 1}
		c.Write(0, top-n*by)
		seen := map[uint64]bool{}
		for k := range n + 1 {
			was := c.Add(0, by)
			if seen[was] || was != top-(n-k)*by {
				t.Fatalf("by %d: addition %d of %d tells %d", by, k, n+1, was)
			}
			seen[was] = true
			c.Add(1, by)
			c.Read(0)
			c.Cas(0, was, 0)
			c.Add(0, 0)
		}
		p.row[0], p.row[1], p.count = by-1, (n+1)*by, 1+5*(n+1)
		same(t, c, p)
	}
}
