package claim_test

import (
	"math"
	"testing"

	"tollbar/api"
	"tollbar/cell"
	"tollbar/claim"
	"tollbar/sample"
)

// fresh answers so many cells.
func fresh(t *testing.T, n int) *cell.Cells {
	t.Helper()
	c, e := cell.New(n)
	if e != api.OK {
		t.Fatal(e)
	}
	return c
}

// made answers n claims on c from base on.
func made(t *testing.T, c *cell.Cells, base, n int) *claim.Claims {
	t.Helper()
	l, e := claim.New(c, base, n)
	if l == nil || e != api.OK {
		t.Fatalf("New of %d cells, %d, %d is %v, %v", c.Len(), base, n, l, e)
	}
	return l
}

// turns are numbers that cells may have, even ones and odd ones.
func turns() []uint64 {
	return []uint64{0, 1, 2, 3, 4, 5, 254, 255, 256, 257, 65534, 65535, 65536, 65537, 1<<31 - 1, 1 << 31, 1<<32 - 1, 1 << 32, 1<<32 + 1, 1<<53 + 1, 1<<62 + 1, 1<<63 - 1, 1 << 63, 1<<63 + 1, math.MaxUint64 - 2, math.MaxUint64 - 1, math.MaxUint64}
}

// outside are numbers of claims that n claims have not; the low bits of some are those of claims that are there.
func outside(n int) []int {
	return []int{-1, -2, -n, -n - 1, n, n + 1, 2 * n, 32 + n, 4096, 1 << 16, 1 << 32, 1<<32 + n - 1, -1 << 32, 1 << 62, 1<<63 - 1, -1 << 62, math.MinInt, math.MinInt + n}
}

// places are how many cells, a base and how many claims there may be.
func places() [][3]int {
	return [][3]int{{1, 0, 1}, {2, 0, 1}, {2, 1, 1}, {2, 0, 2}, {9, 3, 4}, {9, 5, 4}, {32, 0, 32}, {33, 1, 32}, {33, 0, 32}, {60, 20, 31}, {4096, 0, 32}, {4096, 4095, 1}, {4096, 4064, 32}, {4096, 600, 32}}
}

// row answers all numbers of c.
func row(c *cell.Cells) []uint64 {
	l := make([]uint64, c.Len())
	for i := range l {
		l[i] = c.Peek(i)
	}
	return l
}

// same fails, unless c has the numbers of want, and count accesses were done to it.
func same(t *testing.T, c *cell.Cells, want []uint64, count uint64) {
	t.Helper()
	for i, v := range want {
		if got := c.Peek(i); got != v {
			t.Fatalf("cell %d is %d, not %d", i, got, v)
		}
	}
	if c.Count() != count {
		t.Fatalf("Count is %d, not %d", c.Count(), count)
	}
}

// filled answers cells of no order, how many accesses that took is how many they are.
func filled(t *testing.T, n int) *cell.Cells {
	t.Helper()
	c := fresh(t, n)
	for i := range n {
		c.Write(i, sample.Mix(i))
	}
	return c
}

func TestExample(t *testing.T) {
	l := made(t, fresh(t, 8), 2, 4)
	if got := l.Open(2); got != 1 {
		t.Error(got)
	}
	if !l.Claim(2, 1) || l.Claim(2, 1) {
		t.Error("turn 1 is not claimed just once")
	}
	if got := l.Open(2); got != 3 {
		t.Error(got)
	}
	if l.Claim(2, 1) || l.Claim(2, 2) {
		t.Error("claimed with a turn that is over")
	}
	if !l.IsOpen(2) || l.Turn(2) != 3 {
		t.Error(l.IsOpen(2), l.Turn(2))
	}
}

func TestP201New(t *testing.T) {
	for _, x := range places() {
		c := fresh(t, x[0])
		l := made(t, c, x[1], x[2])
		if l.Len() != x[2] {
			t.Errorf("%v: Len is %d", x, l.Len())
		}
		same(t, c, make([]uint64, x[0]), 0)
	}
}

// TestP201NewLeavesCells: what the cells have stays, and is what the claims have.
func TestP201NewLeavesCells(t *testing.T) {
	for _, x := range places() {
		c := filled(t, x[0])
		want := row(c)
		l := made(t, c, x[1], x[2])
		same(t, c, want, uint64(x[0]))
		for k := range x[2] {
			if got := l.Turn(k); got != want[x[1]+k] {
				t.Fatalf("%v: Turn(%d) is %d", x, k, got)
			}
		}
	}
}

func TestP201NewOfNoCells(t *testing.T) {
	for _, x := range [][2]int{{0, 1}, {0, 32}, {0, 0}, {-1, 1}, {0, 33}, {math.MinInt, math.MaxInt}} {
		if l, e := claim.New(nil, x[0], x[1]); l != nil || e != api.ErrNil {
			t.Errorf("New(nil, %d, %d) is %v, %v", x[0], x[1], l, e)
		}
	}
}

func TestP201NewWrong(t *testing.T) {
	for _, x := range [][3]int{
		{10, 0, 0}, {10, 0, -1}, {10, 0, math.MinInt}, {10, 10, 0}, {10, 11, -1}, {10, 5, -5}, // too few
		{33, 0, 33}, {4096, 0, 33}, {4096, 0, 34}, {4096, 0, 64}, {4096, 0, math.MaxInt}, {4096, 0, 1<<32 + 1}, {4096, 0, 1<<62 + 1}, // too many
		{10, -1, 1}, {10, -1, 2}, {10, math.MinInt, 1}, {10, math.MinInt, 32}, {4096, -4096, 32}, {4096, -1 << 32, 1}, // a base below 0
		{1, 1, 1}, {1, 0, 2}, {2, 2, 1}, {2, 1, 2}, {10, 8, 3}, {10, 10, 1}, {10, 11, 1}, {31, 0, 32}, {32, 1, 32}, {4096, 4065, 32}, {4096, 4096, 1}, {10, 1 << 32, 1}, {10, math.MaxInt, 1}, {10, math.MaxInt - 31, 32}, {10, math.MaxInt - 30, 32}, // too few cells
	} {
		c := fresh(t, x[0])
		if l, e := claim.New(c, x[1], x[2]); l != nil || e != api.ErrArg {
			t.Errorf("New of %d cells, %d, %d is %v, %v", x[0], x[1], x[2], l, e)
		}
		same(t, c, make([]uint64, x[0]), 0)
	}
}

// TestP201NewEach: each few cells, bases and counts are refused just where the document's words say it.
func TestP201NewEach(t *testing.T) {
	for _, size := range []int{1, 2, 3, 5, 30, 31, 32, 33, 34, 36} {
		for base := -3; base <= 38; base++ {
			for n := -3; n <= 36; n++ {
				want := api.OK
				if n < 1 || n > 32 || base < 0 || base+n > size {
					want = api.ErrArg
				}
				l, e := claim.New(fresh(t, size), base, n)
				if e != want || (l == nil) != (e != api.OK) {
					t.Errorf("New of %d cells, %d, %d is %v, %v", size, base, n, l, e)
				}
			}
		}
	}
}

// TestP201WhichCells: each claim is on one cell of its own, for each of the calls.
func TestP201WhichCells(t *testing.T) {
	for _, x := range places() {
		c := filled(t, x[0])
		l := made(t, c, x[1], x[2])
		want, count := row(c), c.Count()
		for k := range x[2] {
			at := x[1] + k
			if want[at]%2 == 0 {
				want[at]++
				count++
			}
			if got := l.Open(k); got != want[at] {
				t.Fatalf("%v: Open(%d) is %d, not %d", x, k, got, want[at])
			}
			same(t, c, want, count)
			if k%3 == 0 {
				continue
			}
			if !l.Claim(k, want[at]) {
				t.Fatalf("%v: Claim(%d, %d) is false", x, k, want[at])
			}
			want[at]++
			count++
			same(t, c, want, count)
		}
	}
}

// TestP201Open: one that is open stays as it is, without an access; another one is opened by one.
func TestP201Open(t *testing.T) {
	for _, v := range turns() {
		c := fresh(t, 4)
		c.Write(2, v)
		l := made(t, c, 1, 2)
		want, count := v, uint64(1)
		if v%2 == 0 {
			want, count = v+1, 2
		}
		for range 3 {
			if got := l.Open(1); got != want {
				t.Errorf("Open at %d is %d, not %d", v, got, want)
			}
			same(t, c, []uint64{0, 0, want, 0}, count)
		}
	}
}

// TestP201Claim: of each turn and each number of the cell: just an odd one that the cell has is claimed, an even one is no access.
func TestP201Claim(t *testing.T) {
	for _, v := range turns() {
		for _, turn := range append(turns(), v-1, v+1, v-2, v+2, v^1<<63, v^1<<32, v^1<<16, v^1<<8) {
			c := fresh(t, 4)
			c.Write(2, v)
			l := made(t, c, 1, 2)
			want, count := v, uint64(1)
			if turn%2 == 1 {
				count = 2
			}
			done := turn == v && turn%2 == 1
			if done {
				want = v + 1 // the greatest one goes around
			}
			if got := l.Claim(1, turn); got != done {
				t.Errorf("Claim with %d at %d is %v", turn, v, got)
			}
			same(t, c, []uint64{0, 0, want, 0}, count)
		}
	}
}

// TestP201NotThere: claims that are not there, on either side, have no turn and are nobody's, and nothing is done.
func TestP201NotThere(t *testing.T) {
	for _, x := range places() {
		c := filled(t, x[0])
		l := made(t, c, x[1], x[2])
		want, count := row(c), c.Count()
		for _, k := range outside(x[2]) {
			if k >= 0 && k < x[2] {
				continue
			}
			if got := l.Open(k); got != 0 {
				t.Errorf("%v: Open(%d) is %d", x, k, got)
			}
			for _, turn := range append(turns(), want[0], want[x[1]], want[len(want)-1]) {
				if l.Claim(k, turn) {
					t.Errorf("%v: Claim(%d, %d)", x, k, turn)
				}
			}
		}
		same(t, c, want, count)
	}
}

// TestP201CellsAround: a claim that is not there does nothing to a cell that is, ahead of the claims or behind them.
func TestP201CellsAround(t *testing.T) {
	for _, v := range []uint64{0, 1} {
		c := fresh(t, 12)
		want := make([]uint64, 12)
		for i := range want {
			want[i] = v
			c.Write(i, v)
		}
		l := made(t, c, 4, 3)
		for k := -6; k < 10; k++ {
			if k >= 0 && k < 3 {
				continue
			}
			if l.Open(k) != 0 || l.Claim(k, 1) || l.Claim(k, 0) || l.IsOpen(k) || l.Turn(k) != 0 {
				t.Errorf("claim %d", k)
			}
		}
		same(t, c, want, 12)
	}
}

// TestP201Shared: two on the same cells tell the same, each sees what the other one did.
func TestP201Shared(t *testing.T) {
	c := fresh(t, 9)
	a, b := made(t, c, 1, 6), made(t, c, 3, 6)
	if got := a.Open(2); got != 1 || b.Turn(0) != 1 || !b.IsOpen(0) {
		t.Error(got, b.Turn(0))
	}
	if !b.Claim(0, 1) || a.Claim(2, 1) || a.IsOpen(2) {
		t.Error("one turn, two that are told true")
	}
	if got := b.Open(0); got != 3 || a.Turn(2) != 3 {
		t.Error(got, a.Turn(2))
	}
	same(t, c, []uint64{0, 0, 0, 3, 0, 0, 0, 0, 0}, 4)
}

func TestP201Nil(t *testing.T) {
	var l *claim.Claims
	for _, k := range append(outside(1), 0) {
		if l.Open(k) != 0 {
			t.Errorf("claim %d of none", k)
		}
		for _, turn := range turns() {
			if l.Claim(k, turn) {
				t.Errorf("claim %d of none, with %d", k, turn)
			}
		}
	}
}

func TestP202Nil(t *testing.T) {
	var l *claim.Claims
	for _, k := range append(outside(1), 0) {
		if l.IsOpen(k) || l.Turn(k) != 0 {
			t.Errorf("claim %d of none", k)
		}
	}
	if l.Len() != 0 {
		t.Error(l.Len())
	}
}

func TestP202Len(t *testing.T) {
	for _, size := range []int{32, 33, 4096} {
		c := fresh(t, size)
		for n := 1; n <= 32; n++ {
			for _, base := range []int{0, size - n} {
				if got := made(t, c, base, n).Len(); got != n {
					t.Fatalf("Len is %d of %d claims", got, n)
				}
			}
		}
		if c.Count() != 0 {
			t.Error(c.Count())
		}
	}
}

func TestP202IsOpenAndTurn(t *testing.T) {
	for _, v := range turns() {
		c := fresh(t, 5)
		c.Write(1, v+1)
		c.Write(2, v)
		c.Write(3, v+1)
		l := made(t, c, 1, 3)
		for range 2 {
			if got := l.Turn(1); got != v {
				t.Errorf("Turn at %d is %d", v, got)
			}
			if got := l.IsOpen(1); got != (v%2 == 1) {
				t.Errorf("IsOpen at %d is %v", v, got)
			}
		}
		same(t, c, []uint64{0, v + 1, v, v + 1, 0}, 3)
	}
}

// TestP202Each: each claim tells of its own cell, the first as the last one.
func TestP202Each(t *testing.T) {
	for _, x := range places() {
		c := fresh(t, x[0])
		l := made(t, c, x[1], x[2])
		for k := range x[2] {
			if l.IsOpen(k) || l.Turn(k) != 0 {
				t.Fatalf("%v: claim %d is not closed from its beginning", x, k)
			}
			c.Write(x[1]+k, uint64(7*k+1))
		}
		n := c.Count()
		for k := range x[2] {
			if l.Turn(k) != uint64(7*k+1) || l.IsOpen(k) != (k%2 == 0) {
				t.Fatalf("%v: claim %d: %d, %v", x, k, l.Turn(k), l.IsOpen(k))
			}
		}
		if c.Count() != n {
			t.Errorf("%v: %d accesses", x, c.Count()-n)
		}
	}
}

func TestP202NotThere(t *testing.T) {
	for _, x := range places() {
		c := fresh(t, x[0])
		for i := range x[0] {
			c.Write(i, uint64(2*i+1))
		}
		l := made(t, c, x[1], x[2])
		for _, k := range outside(x[2]) {
			if k >= 0 && k < x[2] {
				continue
			}
			if l.IsOpen(k) || l.Turn(k) != 0 {
				t.Errorf("%v: claim %d: %d, %v", x, k, l.Turn(k), l.IsOpen(k))
			}
		}
		if c.Count() != uint64(x[0]) {
			t.Errorf("%v: %d accesses", x, c.Count())
		}
	}
}

// told counts, of each claim and turn, how many were told true.
type told map[[2]uint64]int

// TestP203OneATurn: whoever comes, in whatever order, with whatever turn it was told: of those with one turn one at most is told true, and just the first one of a turn that is not over.
func TestP203OneATurn(t *testing.T) {
	for seed := range 300 {
		l := made(t, fresh(t, 5), 1, 3)
		at := func(step, salt, below int) int { return int(sample.Mix(1000*seed+3*step+salt) % uint64(below)) }
		var known [3][]uint64 // the turns that each opening was told
		won := told{}
		for step := range 200 {
			k := at(step, 0, 3)
			if at(step, 1, 4) == 0 {
				turn := l.Open(k)
				if n := len(known[k]); n == 0 || known[k][n-1] != turn {
					known[k] = append(known[k], turn)
				}
				continue
			}
			if len(known[k]) == 0 {
				continue
			}
			turn := known[k][len(known[k])-1-at(step, 2, min(3, len(known[k])))]
			last, one := turn == known[k][len(known[k])-1], [2]uint64{uint64(k), turn}
			if got := l.Claim(k, turn); got != (last && won[one] == 0) {
				t.Fatalf("seed %d, step %d: Claim(%d, %d) is %v", seed, step, k, turn, got)
			} else if got {
				won[one]++
			}
		}
	}
}

// TestP203OrderOfComers: of 32 that claim one turn the first is told true, whoever that is, and it alone; with the turn ahead, or the one behind, nobody is.
func TestP203OrderOfComers(t *testing.T) {
	c := fresh(t, 40)
	l := made(t, c, 4, 32)
	for round := range 20 {
		for k := range 32 {
			turn := l.Open(k)
			if l.Claim(k, turn-2) || l.Claim(k, turn+2) || l.Claim(k, turn-1) || l.Claim(k, turn+1) {
				t.Fatalf("round %d: claim %d by another turn than %d", round, k, turn)
			}
			for comer := range 32 {
				if got := l.Claim(k, turn); got != (comer == 0) {
					t.Fatalf("round %d: comer %d of claim %d is told %v", round, comer, k, got)
				}
			}
			if l.IsOpen(k) || l.Turn(k) != turn+1 {
				t.Fatalf("round %d: claim %d is %d", round, k, l.Turn(k))
			}
		}
	}
}

// TestP203AnotherTurn: each opening has another turn, and each that is over is never told true again.
func TestP203AnotherTurn(t *testing.T) {
	l := made(t, fresh(t, 3), 1, 1)
	seen := map[uint64]int{}
	for round := range 300 {
		turn := l.Open(0)
		if turn != uint64(2*round+1) || l.Open(0) != turn {
			t.Fatalf("opening %d is %d", round, turn)
		}
		for old := range seen {
			if l.Claim(0, old) {
				t.Fatalf("claimed with %d, at %d", old, turn)
			}
		}
		if !l.Claim(0, turn) {
			t.Fatalf("%d is nobody's", turn)
		}
		for old := range seen {
			if l.Claim(0, old) || l.Claim(0, turn) || l.Claim(0, turn+1) {
				t.Fatalf("claimed while it is closed, at %d", turn+1)
			}
		}
		if seen[turn]++; seen[turn] > 1 {
			t.Fatalf("%d again", turn)
		}
	}
}
