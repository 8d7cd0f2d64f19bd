package bound_test

import (
	"math"
	"math/big"
	"testing"

	"tollbar/api"
	"tollbar/bound"
	"tollbar/sample"
)

// limit is what goes for all that is beyond it.
const limit = uint64(1) << 62

// parts are a size's numbers, each under the name of its letter.
func parts(z *api.Size) map[byte]*int {
	return map[byte]*int{'W': &z.W, 'P': &z.P, 'T': &z.T, 'C': &z.C, 'N': &z.N, 'Q': &z.Q}
}

// with is z, with another number under that name.
func with(z api.Size, name byte, n int) api.Size {
	*parts(&z)[name] = n
	return z
}

// ranges are from where to where each number may be; of P this is so where W is no less.
func ranges() map[byte][2]int {
	return map[byte][2]int{'W': {1, 1024}, 'P': {1, 255}, 'T': {1, 32}, 'C': {0, 6}, 'N': {1, 6}, 'Q': {1, 1000}}
}

// smallest and greatest are the sizes at all limits.
var (
	smallest = api.Size{W: 1, P: 1, T: 1, C: 0, N: 1, Q: 1}
	greatest = api.Size{W: 1024, P: 255, T: 32, C: 6, N: 6, Q: 1000}
)

// sizes are many that may be, at all limits and within.
func sizes() (l []api.Size) {
	for _, w := range []int{1, 2, 3, 16, 255, 256, 1023, 1024} {
		for _, p := range []int{1, 2, 3, 16, 254, 255} {
			if p > w {
				continue
			}
			for _, t := range []int{1, 2, 16, 31, 32} {
				for c := range 7 {
					for _, n := range []int{1, 2, 5, 6} {
						for _, q := range []int{1, 2, 999, 1000} {
							l = append(l, api.Size{W: w, P: p, T: t, C: c, N: n, Q: q})
						}
					}
				}
			}
		}
	}
	return l
}

// mixed are many more that may be, of no order.
func mixed() (l []api.Size) {
	for k := range 5000 {
		at := func(salt, from, to int) int { return from + int(sample.Mix(6*k+salt)%uint64(to-from+1)) }
		w := at(0, 1, 1024)
		l = append(l, api.Size{W: w, P: at(1, 1, min(w, 255)), T: at(2, 1, 32), C: at(3, 0, 6), N: at(4, 1, 6), Q: at(5, 1, 1000)})
	}
	return l
}

// plus and times are numbers of any length, added up and multiplied.
func plus(l ...*big.Int) *big.Int {
	all := big.NewInt(0)
	for _, n := range l {
		all.Add(all, n)
	}
	return all
}

func times(l ...*big.Int) *big.Int {
	all := big.NewInt(1)
	for _, n := range l {
		all.Mul(all, n)
	}
	return all
}

// num is a number of any length.
func num(n int) *big.Int { return big.NewInt(int64(n)) }

// cut is n, or the limit, if it goes beyond that.
func cut(n *big.Int) uint64 {
	if n.Cmp(new(big.Int).SetUint64(limit)) > 0 {
		return limit
	}
	return n.Uint64()
}

// worked are H, the L of each channel and the bound of z, as the chapter's words tell them, each as long as it is.
func worked(z api.Size) (hold *big.Int, locks []*big.Int, all *big.Int) {
	hold = plus(times(num(8), num(z.T), num(z.N)), times(num(8), num(z.N)), num(40))
	locks = make([]*big.Int, z.C)
	for i := range locks {
		at := z.C - 1 - i
		row := []*big.Int{hold}
		for _, behind := range locks[at+1:] {
			row = append(row, behind, num(2))
		}
		locks[at] = times(num(z.P), plus(row...))
	}
	s := plus(times(num(4), num(z.P)), num(4))
	i := plus(hold, times(plus(num(z.T), num(2)), s))
	for _, l := range locks {
		i = plus(i, l, num(2))
	}
	all = times(num(z.W), num(z.T+1), plus(times(num(z.Q+2), i), times(num(4), s)))
	return hold, locks, all
}

// told fails, unless all that is told of z, which may be, is as worked.
func told(t *testing.T, z api.Size) {
	t.Helper()
	hold, locks, all := worked(z)
	if e := bound.Check(z); e != api.OK {
		t.Fatalf("Check(%v) is %v", z, e)
	}
	if n, e := bound.Hold(z); n != cut(hold) || e != api.OK {
		t.Fatalf("Hold(%v) is %d, %v, not %d", z, n, e, hold)
	}
	if n, e := bound.Of(z); n != cut(all) || e != api.OK {
		t.Fatalf("Of(%v) is %d, %v, not %d", z, n, e, all)
	}
	for i, l := range locks {
		if n, e := bound.Lock(z, i); n != cut(l) || e != api.OK {
			t.Fatalf("Lock(%v, %d) is %d, %v, not %d", z, i, n, e, l)
		}
	}
	for _, i := range []int{z.C, -1} {
		noLock(t, z, i)
	}
}

// noLock fails, unless z has no lock i.
func noLock(t *testing.T, z api.Size, i int) {
	t.Helper()
	if n, e := bound.Lock(z, i); n != 0 || e != api.ErrArg {
		t.Fatalf("Lock(%v, %d) is %d, %v", z, i, n, e)
	}
}

// refused fails, unless z may not be.
func refused(t *testing.T, z api.Size) {
	t.Helper()
	if e := bound.Check(z); e != api.ErrArg {
		t.Fatalf("Check(%v) is %v", z, e)
	}
	if n, e := bound.Hold(z); n != 0 || e != api.ErrArg {
		t.Fatalf("Hold(%v) is %d, %v", z, n, e)
	}
	if n, e := bound.Of(z); n != 0 || e != api.ErrArg {
		t.Fatalf("Of(%v) is %d, %v", z, n, e)
	}
	for i := -1; i <= 7; i++ {
		noLock(t, z, i)
	}
}

// TestExamples: the chapter's examples.
func TestExamples(t *testing.T) {
	if n, e := bound.Hold(smallest); n != 56 || e != api.OK {
		t.Errorf("Hold is %d, %v", n, e)
	}
	if n, e := bound.Of(smallest); n != 544 || e != api.OK {
		t.Errorf("Of is %d, %v", n, e)
	}
	if !bound.Fair("\x00\x01\x00\x01", 2, 2) {
		t.Error("Fair is false")
	}
	if w := bound.Window("\x00\x00\x01", 2); w != 3 {
		t.Errorf("Window is %d", w)
	}
}

// TestP191Written: numbers that were worked out by hand.
func TestP191Written(t *testing.T) {
	for _, x := range []struct {
		z     api.Size
		hold  uint64
		locks []uint64
		all   uint64
	}{
		// S 8, I 58 and 56 and 24: 2 times (3 times 138, and 32).
		{api.Size{W: 1, P: 1, T: 1, C: 1, N: 1, Q: 1}, 56, []uint64{56}, 892},
		// 56, and 56 and 58; S 8, I 58 and 116 and 56 and 24: 2 times (3 times 254, and 32).
		{api.Size{W: 1, P: 1, T: 1, C: 2, N: 1, Q: 1}, 56, []uint64{114, 56}, 1588},
		// H 96 and 24 and 40; 3 times 160, 3 times (160 and 482), 3 times (160 and 482 and 1,928); S 16, I 482 and 1,928 and 7,712 and 160 and 96: 10 times 5 times (7 times 10,378, and 64).
		{api.Size{W: 10, P: 3, T: 4, C: 3, N: 3, Q: 5}, 160, []uint64{7710, 1926, 480}, 3635500},
		// H 32 and 16 and 40; S 24, I 88 and 96: 6 times 3 times (12 times 184, and 96).
		{api.Size{W: 6, P: 5, T: 2, C: 0, N: 2, Q: 10}, 88, nil, 41472},
		{greatest, 1624, []uint64{455331954317852670, 1778640446554110, 6947814244350, 27139899390, 106015230, 414120}, limit},
	} {
		told(t, x.z)
		if n, _ := bound.Hold(x.z); n != x.hold {
			t.Errorf("Hold(%v) is %d, not %d", x.z, n, x.hold)
		}
		if n, _ := bound.Of(x.z); n != x.all {
			t.Errorf("Of(%v) is %d, not %d", x.z, n, x.all)
		}
		for i, l := range x.locks {
			if n, _ := bound.Lock(x.z, i); n != l {
				t.Errorf("Lock(%v, %d) is %d, not %d", x.z, i, n, l)
			}
		}
	}
}

// TestP191Told: Check, Hold, Lock and Of of sizes at all limits, and within.
func TestP191Told(t *testing.T) {
	for _, z := range sizes() {
		told(t, z)
	}
	for _, z := range mixed() {
		told(t, z)
	}
}

// TestP191Beyond: a bound is told as it is up to 2^62, and what is more is 2^62.
func TestP191Beyond(t *testing.T) {
	below := api.Size{W: 994, P: 96, T: 11, C: 5, N: 1, Q: 329}
	if n, e := bound.Of(below); n != limit-26641881424 || e != api.OK {
		t.Errorf("Of(%v) is %d, %v", below, n, e)
	}
	for _, z := range []api.Size{
		{W: 887, P: 175, T: 1, C: 5, N: 4, Q: 146},
		with(below, 'W', 995), with(below, 'P', 97), with(below, 'T', 12), with(below, 'C', 6), with(below, 'N', 2), with(below, 'Q', 330),
		greatest, with(greatest, 'Q', 1), with(greatest, 'W', 255), with(greatest, 'T', 31), with(greatest, 'N', 1),
	} {
		if _, _, all := worked(z); cut(all) != limit {
			t.Fatalf("%v is not beyond the limit", z)
		}
		if n, e := bound.Of(z); n != limit || e != api.OK {
			t.Errorf("Of(%v) is %d, %v", z, n, e)
		}
		told(t, z)
	}
}

// outside are numbers that are not in the range, on either side; the low bits of some are those of numbers that are.
func outside(from, to int) []int {
	return []int{from - 1, from - 2, -from, -to, to + 1, to + 2, 2*to + 1, to + 256, to + 1<<16, -1, -255, -1024, 1025, 1<<31 + 1, 1<<32 + 1, 1<<32 + to,
		-1<<32 + 1, 1<<62 + 1, math.MaxInt, math.MinInt, math.MinInt + 1, math.MinInt + to}
}

// TestP191Refused: each number is refused that is outside of its range, whatever the others are.
func TestP191Refused(t *testing.T) {
	middle := api.Size{W: 300, P: 8, T: 7, C: 3, N: 4, Q: 50}
	for name, r := range ranges() {
		for _, z := range []api.Size{smallest, middle, greatest} {
			for _, n := range []int{r[0], r[1]} {
				if x := with(z, name, n); x.P <= x.W {
					told(t, x)
				}
			}
			for _, n := range outside(r[0], r[1]) {
				if n < r[0] || n > r[1] {
					refused(t, with(z, name, n))
				}
			}
		}
	}
	refused(t, api.Size{})
	refused(t, api.Size{W: -1, P: -1, T: -1, C: -1, N: -1, Q: -1})
}

// TestP191Workers: there are at most as many workers as a window has picks.
func TestP191Workers(t *testing.T) {
	for w := 1; w <= 300; w++ {
		for _, p := range []int{w - 1, w, w + 1, w + 2, 2 * w, 255, 256} {
			z := with(with(greatest, 'W', w), 'P', p)
			if p >= 1 && p <= w && p <= 255 {
				told(t, z)
			} else {
				refused(t, z)
			}
		}
	}
}

// TestP191NoLock: a channel that is not there has no lock.
func TestP191NoLock(t *testing.T) {
	for c := range 7 {
		z := with(greatest, 'C', c)
		for i := range c {
			if n, e := bound.Lock(z, i); n == 0 || e != api.OK {
				t.Errorf("Lock(%v, %d) is %d, %v", z, i, n, e)
			}
		}
		for _, i := range []int{-1, -2, -c - 1, c, c + 1, 6, 7, 255, 256, 1 << 16, 1 << 31, 1 << 32, -1 << 32, math.MaxInt, math.MinInt} {
			noLock(t, z, i)
		}
	}
}

// more are the sizes that are z, but that one number is one more.
func more(z api.Size) (l []api.Size) {
	for name, r := range ranges() {
		if n := *parts(&z)[name] + 1; n <= r[1] && (name != 'P' || n <= z.W) {
			l = append(l, with(z, name, n))
		}
	}
	return l
}

// TestP193More: no bound is less, if anything of the size is more.
func TestP193More(t *testing.T) {
	for _, z := range append(sizes(), mixed()...) {
		h, _ := bound.Hold(z)
		all, _ := bound.Of(z)
		for _, x := range more(z) {
			if n, e := bound.Hold(x); n < h || e != api.OK {
				t.Fatalf("Hold(%v) is %d, %v, and %d of %v", x, n, e, h, z)
			}
			if n, e := bound.Of(x); n < all || e != api.OK {
				t.Fatalf("Of(%v) is %d, %v, and %d of %v", x, n, e, all, z)
			}
			for i := range z.C {
				l, _ := bound.Lock(z, i)
				if n, e := bound.Lock(x, i); n < l || e != api.OK {
					t.Fatalf("Lock(%v, %d) is %d, %v, and %d of %v", x, i, n, e, l, z)
				}
			}
		}
	}
}
