package set_test

import (
	"math"
	"math/bits"
	"slices"
	"testing"

	"tollbar/api"
	"tollbar/set"
)

const all = api.Set(math.MaxUint64) // the set of all 64

// outside are numbers that no set has; the low bits of some are those of numbers that one may have.
func outside() []int {
	return []int{-1, -2, -3, -63, -64, -65, -128, 64, 65, 66, 127, 128, 129, 192, 256, 320, 1 << 20,
		1 << 31, 1<<32 - 1, 1 << 32, 1<<32 + 5, -1 << 32, math.MaxInt, math.MaxInt - 1, math.MinInt, math.MinInt + 1}
}

// inside are all numbers that a set may have.
func inside() []int {
	var l []int
	for k := range 64 {
		l = append(l, k)
	}
	return l
}

// weight is the bit of k, of a k from 0 to 63.
func weight(k int) api.Set {
	w := api.Set(1)
	for range k {
		w *= 2
	}
	return w
}

// mix makes of n a set that tells nothing of n: always the same one of the same n.
func mix(n int) api.Set {
	x := uint64(n+1) * 0x9e3779b97f4a7c15
	x = (x ^ x>>29) * 0xbf58476d1ce4e5b9
	return api.Set(x ^ x>>32)
}

// sets are those of none, of all, of one, of all but one, of all up to one, and some more.
func sets() []api.Set {
	l := []api.Set{0, all, 1<<63 | 1, 0x5555555555555555, 0xaaaaaaaaaaaaaaaa, 0xffffffff, 0xffffffff << 32}
	for _, k := range inside() {
		l = append(l, weight(k), all-weight(k), weight(k)-1, mix(k))
	}
	slices.Sort(l)
	return slices.Compact(l)
}

func TestP21Of(t *testing.T) {
	for _, c := range []struct {
		l    []int
		want api.Set
	}{
		{nil, 0},
		{[]int{}, 0},
		{[]int{0}, 1},
		{[]int{63}, 1 << 63},
		{[]int{3, 0, 64}, 9},
		{[]int{-1, 64}, 0},
		{[]int{-1, 0, 63, 64}, 1<<63 | 1},
		{[]int{5, 5, 5}, 32},
		{[]int{63, 1, 63, 1, 2}, 1<<63 | 6},
		{inside(), all},
		{append(inside(), inside()...), all},
		{outside(), 0},
		{append(outside(), 7), 128},
		{append([]int{7}, outside()...), 128},
	} {
		if got := set.Of(c.l...); got != c.want {
			t.Errorf("Of(%d) is %x, not %x", c.l, uint64(got), uint64(c.want))
		}
	}
	if set.Of() != 0 {
		t.Error(set.Of())
	}
}

func TestP21OfOne(t *testing.T) {
	for _, k := range inside() {
		if got := set.Of(k); got != weight(k) {
			t.Errorf("Of(%d) is %x", k, uint64(got))
		}
	}
	for _, k := range outside() {
		if got := set.Of(k); got != 0 {
			t.Errorf("Of(%d) is %x", k, uint64(got))
		}
	}
}

func TestP21OfKeepsItsArgument(t *testing.T) {
	l := []int{9, -1, 3, 64, 3}
	set.Of(l...)
	if !slices.Equal(l, []int{9, -1, 3, 64, 3}) {
		t.Error(l)
	}
}

func TestP21Has(t *testing.T) {
	for _, s := range sets() {
		for _, k := range inside() {
			if got, want := set.Has(s, k), s/weight(k)%2 == 1; got != want {
				t.Errorf("Has(%x, %d) is %v", uint64(s), k, got)
			}
		}
		for _, k := range outside() {
			if set.Has(s, k) {
				t.Errorf("Has(%x, %d) is true", uint64(s), k)
			}
		}
	}
}

func TestP21WithLess(t *testing.T) {
	for _, s := range sets() {
		for _, k := range inside() {
			with, less := s, s
			if s/weight(k)%2 == 1 {
				less -= weight(k)
			} else {
				with += weight(k)
			}
			if got := set.With(s, k); got != with {
				t.Errorf("With(%x, %d) is %x", uint64(s), k, uint64(got))
			}
			if got := set.Less(s, k); got != less {
				t.Errorf("Less(%x, %d) is %x", uint64(s), k, uint64(got))
			}
		}
		for _, k := range outside() {
			if set.With(s, k) != s || set.Less(s, k) != s {
				t.Errorf("%x and %d: %x, %x", uint64(s), k, uint64(set.With(s, k)), uint64(set.Less(s, k)))
			}
		}
	}
	if set.Less(9, 0) != 8 || set.With(9, 0) != 9 || set.With(0, 63) != 1<<63 || set.Less(1<<63, 63) != 0 {
		t.Error("0 and 63")
	}
}

func TestP22Len(t *testing.T) {
	for _, s := range sets() {
		if got := set.Len(s); got != bits.OnesCount64(uint64(s)) {
			t.Errorf("Len(%x) is %d", uint64(s), got)
		}
	}
	if set.Len(0) != 0 || set.Len(all) != 64 || set.Len(1<<63|1) != 2 {
		t.Error(set.Len(0), set.Len(all), set.Len(1<<63|1))
	}
}

func TestP22List(t *testing.T) {
	for _, c := range []struct {
		s    api.Set
		want []int
	}{
		{0, nil},
		{1, []int{0}},
		{9, []int{0, 3}},
		{1 << 63, []int{63}},
		{1<<63 | 1<<62 | 3, []int{0, 1, 62, 63}},
		{all, inside()},
		{all - 1<<63, inside()[:63]},
		{all - 1, inside()[1:]},
	} {
		if got := set.List(c.s); !slices.Equal(got, c.want) {
			t.Errorf("List(%x) is %d, not %d", uint64(c.s), got, c.want)
		}
	}
	for _, s := range sets() {
		var want []int
		for _, k := range inside() {
			if s/weight(k)%2 == 1 {
				want = append(want, k)
			}
		}
		if got := set.List(s); !slices.Equal(got, want) {
			t.Errorf("List(%x) is %d, not %d", uint64(s), got, want)
		}
	}
}

func TestP22ListIsNew(t *testing.T) {
	l := set.List(9)
	l[0], l[1] = 7, 7
	if again := set.List(9); !slices.Equal(again, []int{0, 3}) {
		t.Error(again)
	}
}

// TestP22InAllShort holds In against the words of the promise, for every two sets of numbers below 5, at both ends.
func TestP22InAllShort(t *testing.T) {
	within := func(a, b api.Set) bool {
		for _, k := range inside() {
			if a/weight(k)%2 > b/weight(k)%2 {
				return false
			}
		}
		return true
	}
	for a := range api.Set(32) {
		for b := range api.Set(32) {
			for _, up := range []int{0, 30, 59} {
				if got := set.In(a<<up, b<<up); got != within(a, b) {
					t.Errorf("In(%x, %x) is %v", uint64(a<<up), uint64(b<<up), got)
				}
			}
		}
	}
}

func TestP22In(t *testing.T) {
	for _, s := range sets() {
		if !set.In(0, s) || !set.In(s, s) || !set.In(s, all) {
			t.Errorf("In of %x: none, itself, all", uint64(s))
		}
		if set.In(s, 0) != (s == 0) || set.In(all, s) != (s == all) {
			t.Errorf("In of %x: in none, all in it", uint64(s))
		}
		for _, k := range inside() {
			more, fewer := s|weight(k), s&^weight(k)
			if !set.In(fewer, more) || set.In(more, fewer) {
				t.Errorf("In of %x and %x", uint64(fewer), uint64(more))
			}
		}
	}
	if !set.In(8, 9) || set.In(9, 8) || set.In(1, 2) || set.In(2, 1) {
		t.Error("8, 9, 1, 2")
	}
}

func TestP22Least(t *testing.T) {
	if k, is := set.Least(0); k != 0 || is {
		t.Error(k, is)
	}
	for _, k := range inside() {
		for _, s := range []api.Set{weight(k), weight(k) | 1<<63, all - weight(k) + 1, mix(k)&^(weight(k)-1) | weight(k)} {
			if got, is := set.Least(s); got != k || !is {
				t.Errorf("Least(%x) is %d, %v, not %d", uint64(s), got, is, k)
			}
		}
	}
	if k, is := set.Least(8); k != 3 || !is {
		t.Error(k, is)
	}
	if k, is := set.Least(all); k != 0 || !is {
		t.Error(k, is)
	}
}

// TestP23ListedAgain: what is listed makes the set again, in whichever order it comes.
func TestP23ListedAgain(t *testing.T) {
	for _, s := range sets() {
		l := set.List(s)
		if len(l) != set.Len(s) || set.Of(l...) != s {
			t.Errorf("%x is listed as %d", uint64(s), l)
		}
		slices.Reverse(l)
		if set.Of(append(l, l...)...) != s {
			t.Errorf("%x is not that of %d, twice", uint64(s), l)
		}
	}
}

// rows are numbers as they are put and taken out, one behind the other, some of which no set has.
func rows() [][]int {
	l := [][]int{{0, 63, -1, 64}, {63, 63, 0, 0}, {31, 32, 33, 31}, append(outside(), inside()...)}
	for n := range 40 {
		var row []int
		for i := range 200 {
			row = append(row, int(mix(n*200+i)%70)-3)
		}
		l = append(l, row)
	}
	return l
}

// TestP23PutLast: a number is there just if it was put last, and not taken out.
func TestP23PutLast(t *testing.T) {
	for n, row := range rows() {
		s := mix(n)
		var there [64]bool
		for _, k := range set.List(s) {
			there[k] = true
		}
		for i, k := range row {
			put := (i+n)%3 != 0 && mix(i+1000*n)%5 != 0
			if put {
				s = set.With(s, k)
			} else {
				s = set.Less(s, k)
			}
			if k >= 0 && k < 64 {
				there[k] = put
			}
			for h, want := range there {
				if set.Has(s, h) != want {
					t.Fatalf("row %d, step %d, number %d: Has(%x, %d) is not %v", n, i, k, uint64(s), h, want)
				}
			}
		}
	}
}
