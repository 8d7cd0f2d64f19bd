package ring_test

import (
	"math"
	"slices"
	"testing"

	"tollbar/api"
	"tollbar/ring"
)

// plain is a ring as the document's words tell it: a row that grows at its end and goes at its beginning.
type plain struct {
	most int
	row  []int64
}

func (p *plain) put(v int64) api.Errno {
	if len(p.row) == p.most {
		return api.ErrFull
	}
	p.row = append(p.row, v)
	return api.OK
}

func (p *plain) take() (int64, api.Errno) {
	if len(p.row) == 0 {
		return 0, api.ErrNone
	}
	v := p.row[0]
	p.row = p.row[1:]
	return v, api.OK
}

func (p *plain) swap(v int64) (int64, api.Errno) {
	if len(p.row) < p.most || len(p.row) == 0 {
		return 0, api.ErrNone
	}
	first := p.row[0]
	p.row = append(p.row[1:], v)
	return first, api.OK
}

// made answers a ring of that most.
func made(t *testing.T, most int) *ring.Ring {
	t.Helper()
	r, e := ring.New(most)
	if r == nil || e != api.OK {
		t.Fatalf("New(%d) is %v, %v", most, r, e)
	}
	return r
}

// turned answers a ring of that most that has l, and whose first place is behind so many that were taken.
func turned(t *testing.T, most, by int, l ...int64) *ring.Ring {
	t.Helper()
	r := made(t, most)
	if most == 0 {
		return r
	}
	for k := range by {
		r.Put(int64(-k - 1))
		r.Take()
	}
	for _, v := range l {
		if e := r.Put(v); e != api.OK {
			t.Fatalf("most %d, turned by %d: Put(%d) is %v", most, by, v, e)
		}
	}
	return r
}

// same fails, unless all that r tells is as p has it.
func same(t *testing.T, r *ring.Ring, p plain) {
	t.Helper()
	if l := r.List(); !slices.Equal(l, p.row) {
		t.Fatalf("most %d: List is %d, not %d", p.most, l, p.row)
	}
	if r.Len() != len(p.row) || r.Cap() != p.most {
		t.Fatalf("Len is %d, Cap is %d, not %d, %d", r.Len(), r.Cap(), len(p.row), p.most)
	}
	var front int64
	if len(p.row) > 0 {
		front = p.row[0]
	}
	if v, is := r.Front(); v != front || is != (len(p.row) > 0) {
		t.Fatalf("most %d: Front of %d is %d, %v", p.most, p.row, v, is)
	}
}

// step does one thing, of 0 to 2, to both, and fails unless it comes to the same.
func step(t *testing.T, r *ring.Ring, p *plain, do int, v int64) {
	t.Helper()
	ahead := slices.Clone(p.row)
	var got, want int64
	var e, wrong api.Errno
	switch do {
	case 0:
		e, wrong = r.Put(v), p.put(v)
	case 1:
		got, e = r.Take()
		want, wrong = p.take()
	default:
		got, e = r.Swap(v)
		want, wrong = p.swap(v)
	}
	if got != want || e != wrong {
		t.Fatalf("most %d, %d: what %d does with %d is %d, %v, not %d, %v", p.most, ahead, do, v, got, e, want, wrong)
	}
	same(t, r, *p)
}

// mix makes of n a number that tells nothing of n: always the same one of the same n.
func mix(n int) int64 {
	x := uint64(n+1) * 0x9e3779b97f4a7c15
	x = (x ^ x>>29) * 0xbf58476d1ce4e5b9
	return int64(x ^ x>>32)
}

func TestP31New(t *testing.T) {
	for most := range api.MaxCap + 1 {
		same(t, made(t, most), plain{most: most})
	}
	for _, most := range []int{-1, -2, -8, 9, 10, 16, 64, 255, 256, 264, 1 << 31, 1 << 32, 1<<32 + 5, -1 << 32, math.MaxInt, math.MinInt, math.MinInt + 8} {
		if r, e := ring.New(most); r != nil || e != api.ErrArg {
			t.Errorf("New(%d) is %v, %v", most, r, e)
		}
	}
}

func TestP31NewIsOfItsOwn(t *testing.T) {
	a, b := made(t, 2), made(t, 2)
	a.Put(5)
	same(t, a, plain{2, []int64{5}})
	same(t, b, plain{most: 2})
}

func TestP31Example(t *testing.T) {
	r := made(t, 2)
	if e, f, g := r.Put(5), r.Put(6), r.Put(7); e != api.OK || f != api.OK || g != api.ErrFull {
		t.Fatal(e, f, g)
	}
	if v, e := r.Swap(7); v != 5 || e != api.OK {
		t.Fatal(v, e)
	}
	for _, want := range []int64{6, 7} {
		if v, e := r.Take(); v != want || e != api.OK {
			t.Fatal(v, e)
		}
	}
	if v, e := r.Take(); v != 0 || e != api.ErrNone {
		t.Fatal(v, e)
	}
}

// TestP31PutUpToMost: each most, from each place on, takes just so many, and nothing of one too many.
func TestP31PutUpToMost(t *testing.T) {
	for most := range api.MaxCap + 1 {
		for by := range 2*api.MaxCap + 1 {
			r, p := turned(t, most, by), plain{most: most}
			for k := range most {
				step(t, r, &p, 0, int64(100+k))
			}
			for range 2 {
				if e := r.Put(7); e != api.ErrFull {
					t.Fatalf("most %d: Put is %v", most, e)
				}
				same(t, r, p)
			}
		}
	}
}

// TestP31TakeDownToNone: each count, from each place on, gives out just so many, and nothing more.
func TestP31TakeDownToNone(t *testing.T) {
	for most := range api.MaxCap + 1 {
		for by := range 2*api.MaxCap + 1 {
			for n := range most + 1 {
				var l []int64
				for k := range n {
					l = append(l, int64(100+k))
				}
				r := turned(t, most, by, l...)
				for k := range n {
					if v, e := r.Take(); v != l[k] || e != api.OK {
						t.Fatalf("most %d: Take is %d, %v, not %d", most, v, e, l[k])
					}
					same(t, r, plain{most, l[k+1:]})
				}
				for range 2 {
					if v, e := r.Take(); v != 0 || e != api.ErrNone {
						t.Fatalf("most %d: Take of none is %d, %v", most, v, e)
					}
					same(t, r, plain{most: most})
				}
			}
		}
	}
}

// TestP31Swap: of one that is full; of one that is not, which stays as it is.
func TestP31Swap(t *testing.T) {
	for most := range api.MaxCap + 1 {
		for by := range 2*api.MaxCap + 1 {
			for n := range most + 1 {
				var l []int64
				for k := range n {
					l = append(l, int64(100+k))
				}
				r, p := turned(t, most, by, l...), plain{most, l}
				v, e := r.Swap(9)
				if n < most || n == 0 {
					if v != 0 || e != api.ErrNone {
						t.Fatalf("most %d, %d there: Swap is %d, %v", most, n, v, e)
					}
					same(t, r, p)
					continue
				}
				if v != 100 || e != api.OK {
					t.Fatalf("most %d, full: Swap is %d, %v", most, v, e)
				}
				same(t, r, plain{most, append(slices.Clone(l[1:]), 9)})
			}
		}
	}
}

func TestP31OfNone(t *testing.T) {
	r := made(t, 0)
	for range 3 {
		if e := r.Put(1); e != api.ErrFull {
			t.Error(e)
		}
		if v, e := r.Take(); v != 0 || e != api.ErrNone {
			t.Error(v, e)
		}
		if v, e := r.Swap(1); v != 0 || e != api.ErrNone {
			t.Error(v, e)
		}
		same(t, r, plain{})
	}
	same(t, r.Copy(), plain{})
}

func TestP31Nil(t *testing.T) {
	var r *ring.Ring
	if e := r.Put(1); e != api.ErrNil {
		t.Error(e)
	}
	if v, e := r.Take(); v != 0 || e != api.ErrNil {
		t.Error(v, e)
	}
	if v, e := r.Swap(1); v != 0 || e != api.ErrNil {
		t.Error(v, e)
	}
}

func TestP32Nil(t *testing.T) {
	var r *ring.Ring
	if v, is := r.Front(); v != 0 || is {
		t.Error(v, is)
	}
	if r.Len() != 0 || r.Cap() != 0 || len(r.List()) != 0 || r.Copy() != nil {
		t.Error(r.Len(), r.Cap(), r.List(), r.Copy())
	}
}

// TestP32Front: a 0 that is there is told apart from none.
func TestP32Front(t *testing.T) {
	r := made(t, 3)
	if v, is := r.Front(); v != 0 || is {
		t.Error(v, is)
	}
	for _, v := range []int64{0, math.MinInt64, math.MaxInt64} {
		r.Put(v)
	}
	for _, want := range []int64{0, math.MinInt64, math.MaxInt64} {
		for range 2 {
			if v, is := r.Front(); v != want || !is {
				t.Errorf("Front is %d, %v, not %d", v, is, want)
			}
		}
		r.Take()
	}
	if v, is := r.Front(); v != 0 || is {
		t.Error(v, is)
	}
}

// TestP32ListIsNew: what is done to a list, or behind it to the ring, changes neither the other one nor the next list.
func TestP32ListIsNew(t *testing.T) {
	for by := range api.MaxCap {
		r, p := turned(t, 4, by, 1, 2, 3), plain{4, []int64{1, 2, 3}}
		l, again := r.List(), r.List()
		l[0], l[1], l[2] = 7, 8, 9
		l = append(l, 10)
		same(t, r, p)
		if !slices.Equal(again, p.row) {
			t.Fatalf("a list that was answered ahead is %d", again)
		}
		r.Put(4)
		r.Swap(5)
		r.Take()
		if !slices.Equal(again, []int64{1, 2, 3}) || !slices.Equal(l, []int64{7, 8, 9, 10}) {
			t.Fatalf("lists that were answered ahead are %d, %d", again, l)
		}
		same(t, r, plain{4, []int64{3, 4, 5}})
	}
}

// TestP32Copy: of each most, each count, from each place on, a copy is the same, and both go on apart.
func TestP32Copy(t *testing.T) {
	for most := range api.MaxCap + 1 {
		for by := range api.MaxCap {
			for n := range most + 1 {
				var l []int64
				for k := range n {
					l = append(l, int64(100+k))
				}
				r, p := turned(t, most, by, l...), plain{most, l}
				c := r.Copy()
				if c == r {
					t.Fatal("a copy is the ring itself")
				}
				same(t, c, p)
				apart(t, r, c, p)
				apart(t, c, c.Copy(), plain{most, c.List()})
			}
		}
	}
}

// apart works on a, which is as p, while b stays as it is; and then on b.
func apart(t *testing.T, a, b *ring.Ring, p plain) {
	t.Helper()
	pa, pb := plain{p.most, slices.Clone(p.row)}, plain{p.most, slices.Clone(p.row)}
	for k, do := range []int{2, 1, 0, 0, 2, 1, 1, 0} {
		step(t, a, &pa, do, int64(200+k))
		same(t, b, pb)
	}
	for k, do := range []int{1, 0, 0, 2, 0, 2, 1} {
		step(t, b, &pb, do, int64(300+k))
		same(t, a, pa)
	}
}

// TestP33AllShort holds rings against plain rows, over all rows of up to 7 steps, of each most up to 4.
func TestP33AllShort(t *testing.T) {
	const long, rows = 7, 3 * 3 * 3 * 3 * 3 * 3 * 3
	for most := range 5 {
		for n := range rows {
			r, p := made(t, most), plain{most: most}
			for k, left := 0, n; k < long; k, left = k+1, left/3 {
				step(t, r, &p, left%3, int64(k+1))
			}
		}
	}
}

// TestP33LongRows holds rings against plain rows over many steps, so that all goes around often: some rows fill it, some empty it, some do both.
func TestP33LongRows(t *testing.T) {
	for most := range api.MaxCap + 1 {
		for n := range 6 {
			r, p := made(t, most), plain{most: most}
			for k := range 500 {
				luck := uint64(mix(1000*n+k)) % 12
				do := 2
				switch {
				case luck < uint64(3+n):
					do = 0
				case luck < 9:
					do = 1
				}
				step(t, r, &p, do, mix(k))
			}
		}
	}
}

// TestP33InTurn: what is taken, and swapped out, is what was put, and swapped in, in the same order, each once, equal ones too.
func TestP33InTurn(t *testing.T) {
	for most := 1; most <= api.MaxCap; most++ {
		for ahead := range most {
			r := made(t, most)
			var in, out []int64
			for k := range int64(100) {
				v := k / 2 * (1 - k%3)
				in = append(in, v)
				switch {
				case r.Len() == most:
					first, e := r.Swap(v)
					if e != api.OK {
						t.Fatal(most, ahead, k, e)
					}
					out = append(out, first)
				case r.Put(v) != api.OK:
					t.Fatal(most, ahead, k)
				}
				for k%3 == 0 && r.Len() > ahead {
					first, e := r.Take()
					if e != api.OK {
						t.Fatal(most, ahead, k, e)
					}
					out = append(out, first)
				}
			}
			if all := append(out, r.List()...); !slices.Equal(all, in) {
				t.Fatalf("most %d, down to %d: %d went in, %d came out", most, ahead, in, all)
			}
		}
	}
}

// TestP33SwapIsTakeThenPut: of rings that are full, from each place on.
func TestP33SwapIsTakeThenPut(t *testing.T) {
	for most := 1; most <= api.MaxCap; most++ {
		r := made(t, most)
		for k := range most {
			r.Put(mix(k))
		}
		for k := range 3 * api.MaxCap {
			c := r.Copy()
			v, e := r.Swap(mix(100 + k))
			w, f := c.Take()
			g := c.Put(mix(100 + k))
			if v != w || e != api.OK || f != api.OK || g != api.OK {
				t.Fatal(most, k, v, e, w, f, g)
			}
			same(t, r, plain{most, c.List()})
			same(t, c, plain{most, r.List()})
		}
	}
}
