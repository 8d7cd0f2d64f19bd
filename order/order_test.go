package order_test

import (
	"math"
	"slices"
	"testing"

	"tollbar/api"
	"tollbar/order"
	"tollbar/sample"
)

const all = api.Set(math.MaxUint64) // the set of all 64

// outside are numbers that an order of n does not have, on either side; the low bits of some are those of numbers that it has.
func outside(n int) []int {
	return []int{-1, -2, -3, -5, -6, -7, -n, -64, n, n + 1, n + 2, 6, 7, 8, 62, 63, 64, 65, 69, 128, 255, 256, 257, 1 << 16, 1<<16 + 1, 1 << 31, 1<<32 - 1,
		1 << 32, 1<<32 + 1, -1 << 32, -1<<32 + 1, 1 << 62, math.MaxInt, math.MaxInt - 1, math.MinInt, math.MinInt + 1}
}

// rising are the numbers from 0 to below n.
func rising(n int) (row []int) {
	for k := range n {
		row = append(row, k)
	}
	return row
}

// strange are sets of numbers that an order of n does not have: none, all, each one, and some.
func strange(n int) []api.Set {
	l := []api.Set{0, all << n}
	for k := n; k < 64; k++ {
		l = append(l, 1<<k)
	}
	for k := range 8 {
		l = append(l, api.Set(sample.Mix(k))<<n)
	}
	return l
}

// took is a row behind k was taken, as the document's words tell it.
func took(row []int, k int) []int {
	others := slices.DeleteFunc(slices.Clone(row), func(other int) bool { return other == k })
	return append(others, k)
}

// chosen are those of a row that are in the set, in the row's order.
func chosen(row []int, ready api.Set) (l []int) {
	for _, k := range row {
		if ready>>k&1 != 0 {
			l = append(l, k)
		}
	}
	return l
}

// made answers an order of n.
func made(t *testing.T, n int) *order.Order {
	t.Helper()
	o, e := order.New(n)
	if o == nil || e != api.OK {
		t.Fatalf("New(%d) is %v, %v", n, o, e)
	}
	return o
}

// take takes k, which o has.
func take(t *testing.T, o *order.Order, k int) {
	t.Helper()
	before := o.List()
	if e := o.Took(k); e != api.OK {
		t.Fatalf("of %d: Took(%d) is %v", before, k, e)
	}
}

// stands answers an order whose row is this one: all are taken, in its order.
func stands(t *testing.T, row ...int) *order.Order {
	t.Helper()
	o := made(t, len(row))
	for _, k := range row {
		take(t, o, k)
	}
	return o
}

// asked fails, unless Pick and Row tell of this set what they must of that row.
func asked(t *testing.T, o *order.Order, row []int, ready api.Set) {
	t.Helper()
	want := chosen(row, ready)
	if l := o.Row(ready); !slices.Equal(l, want) {
		t.Fatalf("of %d: Row(%x) is %d, not %d", row, uint64(ready), l, want)
	}
	first := append(slices.Clone(want), 0)[0]
	if k, is := o.Pick(ready); k != first || is != (len(want) > 0) {
		t.Fatalf("of %d: Pick(%x) is %d, %v, not %d", row, uint64(ready), k, is, first)
	}
}

// same fails, unless all that o tells is as of that row, of each set of what it has and of each number from -1 to 7.
func same(t *testing.T, o *order.Order, row []int) {
	t.Helper()
	if l := o.List(); !slices.Equal(l, row) {
		t.Fatalf("List is %d, not %d", l, row)
	}
	if n := o.Len(); n != len(row) {
		t.Fatalf("of %d: Len is %d", row, n)
	}
	for k := -1; k <= 7; k++ {
		age := -1
		if at := slices.Index(row, k); at >= 0 {
			age = len(row[at+1:])
		}
		if got := o.Age(k); got != age {
			t.Fatalf("of %d: Age(%d) is %d, not %d", row, k, got, age)
		}
	}
	for ready := range api.Set(1) << len(row) {
		asked(t, o, row, ready)
	}
}

// orders are all rows that the numbers from 0 to below n can stand in.
func orders(n int) [][]int {
	if n == 0 {
		return [][]int{nil}
	}
	var l [][]int
	for _, row := range orders(n - 1) {
		for at := range n {
			l = append(l, slices.Insert(slices.Clone(row), at, n-1))
		}
	}
	return l
}

// each does it to orders of each n, that stand in each row.
func each(t *testing.T, do func(o *order.Order, row []int)) {
	t.Helper()
	for n := 1; n <= 6; n++ {
		for _, row := range orders(n) {
			do(stands(t, row...), row)
		}
	}
}

func TestP91New(t *testing.T) {
	for n := 1; n <= 6; n++ {
		same(t, made(t, n), rising(n))
	}
	for _, n := range append(outside(6), 0) {
		if n == 6 {
			continue
		}
		if o, e := order.New(n); o != nil || e != api.ErrArg {
			t.Errorf("New(%d) is %v, %v", n, o, e)
		}
	}
}

func TestP91NewIsOfItsOwn(t *testing.T) {
	a, b := made(t, 3), made(t, 3)
	if a == b {
		t.Fatal("two orders are one")
	}
	take(t, a, 0)
	same(t, a, []int{1, 2, 0})
	same(t, b, []int{0, 1, 2})
	same(t, made(t, 3), []int{0, 1, 2})
}

// TestP91Example: the chapter's.
func TestP91Example(t *testing.T) {
	o := made(t, 3)
	if k, is := o.Pick(6); k != 1 || !is {
		t.Error(k, is)
	}
	take(t, o, 1)
	if l := o.List(); !slices.Equal(l, []int{0, 2, 1}) {
		t.Error(l)
	}
	if k, is := o.Pick(6); k != 2 || !is {
		t.Error(k, is)
	}
	if o.Age(0) != 2 {
		t.Error(o.Age(0))
	}
}

// TestP91TookWrittenOut: the first one, one in the middle, the last one, the only one, and the same one twice.
func TestP91TookWrittenOut(t *testing.T) {
	for _, c := range []struct {
		n    int
		took []int
		row  []int
	}{
		{1, []int{0}, []int{0}},
		{1, []int{0, 0}, []int{0}},
		{2, []int{0}, []int{1, 0}},
		{2, []int{1}, []int{0, 1}},
		{2, []int{0, 0}, []int{1, 0}},
		{4, []int{0}, []int{1, 2, 3, 0}},
		{4, []int{1}, []int{0, 2, 3, 1}},
		{4, []int{2}, []int{0, 1, 3, 2}},
		{4, []int{3}, []int{0, 1, 2, 3}},
		{4, []int{1, 1}, []int{0, 2, 3, 1}},
		{4, []int{1, 0}, []int{2, 3, 1, 0}},
		{4, []int{3, 2, 1, 0}, []int{3, 2, 1, 0}},
		{6, []int{0}, []int{1, 2, 3, 4, 5, 0}},
		{6, []int{3}, []int{0, 1, 2, 4, 5, 3}},
		{6, []int{5}, []int{0, 1, 2, 3, 4, 5}},
		{6, []int{2, 5, 2}, []int{0, 1, 3, 4, 5, 2}},
	} {
		o := made(t, c.n)
		for _, k := range c.took {
			take(t, o, k)
		}
		same(t, o, c.row)
	}
}

// TestP91TookEach: whoever is taken stands last, wherever it stood, all others as they stood; taken again, nothing changes.
func TestP91TookEach(t *testing.T) {
	each(t, func(o *order.Order, row []int) {
		same(t, o, row)
		for at, k := range row {
			c := o.Copy()
			want := slices.Concat(row[:at], row[at+1:], []int{k})
			for range 2 {
				take(t, c, k)
				same(t, c, want)
			}
		}
	})
}

// TestP91TookWrong: who is not one of them is refused, and changes nothing.
func TestP91TookWrong(t *testing.T) {
	each(t, func(o *order.Order, row []int) {
		for _, k := range outside(len(row)) {
			if e := o.Took(k); e != api.ErrArg {
				t.Fatalf("of %d: Took(%d) is %v", row, k, e)
			}
		}
		same(t, o, row)
	})
}

// TestP91AllShort holds orders against plain rows, over all rows of 5 times that one is taken.
func TestP91AllShort(t *testing.T) {
	const long = 5
	for n := 1; n <= 6; n++ {
		rows := int(math.Pow(float64(n), long))
		for row := range rows {
			o, p := made(t, n), rising(n)
			for k, left := 0, row; k < long; k, left = k+1, left/n {
				take(t, o, left%n)
				p = took(p, left%n)
			}
			same(t, o, p)
		}
	}
}

// TestP91LongRows holds orders against plain rows over many steps, some of which take one that is not one of them.
func TestP91LongRows(t *testing.T) {
	for n := 1; n <= 6; n++ {
		o, p := made(t, n), rising(n)
		for i := range 3000 {
			k := int(sample.Mix(n*10000+i)%uint64(n+2)) - 1
			e := o.Took(k)
			if (e == api.OK) != (k >= 0 && k < n) || e != api.OK && e != api.ErrArg {
				t.Fatalf("of %d: Took(%d) is %v", p, k, e)
			}
			if e == api.OK {
				p = took(p, k)
			}
			same(t, o, p)
		}
	}
}

// TestP91Nil: an order that is not there is told ahead of a number that may not be.
func TestP91Nil(t *testing.T) {
	var o *order.Order
	for _, k := range append(outside(6), rising(6)...) {
		if e := o.Took(k); e != api.ErrNil {
			t.Errorf("Took(%d) is %v", k, e)
		}
	}
}

func TestP92Nil(t *testing.T) {
	var o *order.Order
	for _, ready := range append(strange(0), 1, 6, 63, all) {
		if k, is := o.Pick(ready); k != 0 || is {
			t.Errorf("Pick(%x) is %d, %v", uint64(ready), k, is)
		}
		if l := o.Row(ready); len(l) != 0 {
			t.Errorf("Row(%x) is %d", uint64(ready), l)
		}
	}
	for _, k := range append(outside(6), rising(6)...) {
		if age := o.Age(k); age != -1 {
			t.Errorf("Age(%d) is %d", k, age)
		}
	}
	if o.Len() != 0 || len(o.List()) != 0 || o.Copy() != nil {
		t.Error(o.Len(), o.List(), o.Copy())
	}
}

// TestP92WrittenOut: what is told of one row, of no set, of all, of one, and of numbers that it does not have.
func TestP92WrittenOut(t *testing.T) {
	o := stands(t, 2, 0, 3, 1)
	for _, c := range []struct {
		ready api.Set
		row   []int
		first int
		is    bool
	}{
		{0, nil, 0, false},
		{15, []int{2, 0, 3, 1}, 2, true},
		{all, []int{2, 0, 3, 1}, 2, true},
		{1, []int{0}, 0, true},
		{2, []int{1}, 1, true},
		{4, []int{2}, 2, true},
		{8, []int{3}, 3, true},
		{3, []int{0, 1}, 0, true},
		{10, []int{3, 1}, 3, true},
		{11, []int{0, 3, 1}, 0, true},
		{16, nil, 0, false},
		{1 << 63, nil, 0, false},
		{all - 15, nil, 0, false},
		{1<<63 | 1, []int{0}, 0, true},
		{1<<63 | 16 | 10, []int{3, 1}, 3, true},
	} {
		if k, is := o.Pick(c.ready); k != c.first || is != c.is {
			t.Errorf("Pick(%x) is %d, %v", uint64(c.ready), k, is)
		}
		if l := o.Row(c.ready); !slices.Equal(l, c.row) {
			t.Errorf("Row(%x) is %d", uint64(c.ready), l)
		}
	}
	for k, age := range []int{2, 0, 3, 1, -1} {
		if o.Age(k) != age {
			t.Errorf("Age(%d) is %d", k, o.Age(k))
		}
	}
	if o.Len() != 4 || !slices.Equal(o.List(), []int{2, 0, 3, 1}) {
		t.Error(o.Len(), o.List())
	}
}

// TestP92StrangeSets: what an order does not have makes no difference in a set, beside none, one or all of what it has.
func TestP92StrangeSets(t *testing.T) {
	each(t, func(o *order.Order, row []int) {
		own := []api.Set{0, 1<<len(row) - 1}
		for _, k := range row {
			own = append(own, 1<<k)
		}
		for _, more := range strange(len(row)) {
			for _, ready := range own {
				asked(t, o, row, ready|more)
			}
		}
	})
}

// TestP92AgeOfOthers: -1 of those that are not one of them.
func TestP92AgeOfOthers(t *testing.T) {
	each(t, func(o *order.Order, row []int) {
		for _, k := range outside(len(row)) {
			if age := o.Age(k); age != -1 {
				t.Fatalf("of %d: Age(%d) is %d", row, k, age)
			}
		}
	})
}

// TestP92AskingChangesNothing: who is asked stays as it stands; only Took moves anyone.
func TestP92AskingChangesNothing(t *testing.T) {
	each(t, func(o *order.Order, row []int) {
		for range 2 {
			same(t, o, row)
		}
	})
}

// TestP92ListsAreNew: what is done to a list or row, or behind it to the order, changes neither the other one nor the next list.
func TestP92ListsAreNew(t *testing.T) {
	each(t, func(o *order.Order, row []int) {
		for _, list := range []func() []int{o.List, func() []int { return o.Row(all) }} {
			l, again := list(), list()
			for at := range l {
				l[at] = 70 + at
			}
			l = append(l, 80, 81)
			same(t, o, row)
			if !slices.Equal(again, row) {
				t.Fatalf("of %d: a list that was answered ahead is %d", row, again)
			}
			c, kept := o.Copy(), list()
			take(t, o, row[0])
			if !slices.Equal(again, row) || !slices.Equal(kept, row) || l[0] != 70 {
				t.Fatalf("of %d: lists that were answered ahead are %d, %d, %d", row, again, kept, l)
			}
			for _, k := range row {
				take(t, o, k)
			}
			same(t, o, row)
			same(t, c, row)
		}
	})
}

// TestP92ListHasNoMore: what is put behind a list that was answered is not seen in the order, of one that is not full.
func TestP92ListHasNoMore(t *testing.T) {
	for n := 1; n <= 5; n++ {
		o := made(t, n)
		_ = append(o.List(), 5, 5, 5)
		_ = append(o.Row(all), 5, 5, 5)
		same(t, o, rising(n))
	}
}

// TestP92Copy: a copy is the same, and both go on apart.
func TestP92Copy(t *testing.T) {
	each(t, func(o *order.Order, row []int) {
		c := o.Copy()
		if c == o || c == nil {
			t.Fatal("a copy is the order itself, or none")
		}
		same(t, c, row)
		mine, its := row, row
		for k := range len(row) { // the order goes on, the copy stays
			take(t, o, k)
			mine = took(mine, k)
		}
		same(t, o, mine)
		same(t, c, its)
		for k := range len(row) / 2 { // and the other way round
			take(t, c, its[k])
			its = took(its, its[k])
		}
		same(t, o, mine)
		same(t, c, its)
		same(t, c.Copy().Copy(), its)
	})
}

// watched is how an order stands, where k was passed over so many times since it was taken, or, if it never was, from the beginning on.
type watched struct {
	row    [6]int
	k      int
	passes int
	never  bool
}

// state answers how o stands, of which k is watched.
func state(o *order.Order, k, passes int, never bool) watched {
	w := watched{k: k, passes: passes, never: never}
	copy(w.row[:], o.List())
	return w
}

// met goes through all that an order of n can come to, whatever is ready, as long as that one is taken that Pick tells: by how many passes each one can be taken that was watched from the beginning, and from where it was taken.
func met(t *testing.T, n int) (first, then [6]map[int]bool) {
	t.Helper()
	seen := map[watched]bool{}
	type at struct {
		o *order.Order
		w watched
	}
	var left []at
	put := func(o *order.Order, w watched) {
		if !seen[w] {
			seen[w] = true
			left = append(left, at{o, w})
		}
	}
	for k := range n {
		first[k], then[k] = map[int]bool{}, map[int]bool{}
		o := made(t, n)
		put(o, state(o, k, 0, true))
	}
	for len(left) > 0 {
		a := left[len(left)-1]
		left = left[:len(left)-1]
		for ready := api.Set(1); ready < 1<<n; ready++ {
			w := a.w
			picked, is := a.o.Pick(ready)
			if !is || ready>>picked&1 == 0 {
				t.Fatalf("of %d: Pick(%x) is %d, %v", w.row[:n], uint64(ready), picked, is)
			}
			switch {
			case picked == w.k && w.never:
				first[w.k][w.passes] = true
				w.never, w.passes = false, 0
			case picked == w.k:
				then[w.k][w.passes] = true
				w.passes = 0
			case ready>>w.k&1 != 0:
				w.passes++
			}
			if w.passes > n-1 {
				t.Fatalf("of %d: %d is passed over %d times", w.row[:n], w.k, w.passes)
			}
			o := a.o.Copy()
			take(t, o, picked)
			put(o, state(o, w.k, w.passes, w.never))
		}
	}
	return first, then
}

// TestP93WhateverIsReady: over all that an order can come to, each one is passed over at most n less 1 times, and each number up to that is met by each one between two times that it is taken; ahead of the first one at most by as many as stood ahead.
func TestP93WhateverIsReady(t *testing.T) {
	for n := 1; n <= 6; n++ {
		first, then := met(t, n)
		for k := range n {
			for passes := range n {
				if !then[k][passes] {
					t.Errorf("of %d: %d is never passed over %d times between", n, k, passes)
				}
				if first[k][passes] != (passes <= k) {
					t.Errorf("of %d: %d is passed over %d times ahead of the first one: %v", n, k, passes, first[k][passes])
				}
			}
			if len(then[k]) != n || len(first[k]) != k+1 {
				t.Errorf("of %d: %d is passed over %v, %v", n, k, first[k], then[k])
			}
		}
	}
}

// TestP93EachNumberIsMet: one that was taken is passed over by as many others as are ready once with it, up to n less 1, each by name; then it goes ahead of all.
func TestP93EachNumberIsMet(t *testing.T) {
	each(t, func(o *order.Order, row []int) {
		n := len(row)
		k := row[n-1] // it was taken last
		for most := range n {
			c := o.Copy()
			for i := range most {
				other := row[i]
				if picked, is := c.Pick(1<<k | 1<<other); picked != other || !is {
					t.Fatalf("of %d, pass %d: %d is picked, %v, of %d and %d", row, i, picked, is, k, other)
				}
				take(t, c, other)
				if c.Age(k) != i+1 {
					t.Fatalf("of %d, pass %d: Age(%d) is %d", row, i, k, c.Age(k))
				}
			}
			for _, other := range row[:most] {
				if picked, is := c.Pick(1<<k | 1<<other); picked != k || !is {
					t.Fatalf("of %d, behind %d passes: %d is picked, %v, of %d and %d", row, most, picked, is, k, other)
				}
			}
			take(t, c, k)
			same(t, c, slices.Concat(row[most:n-1], row[:most], []int{k}))
		}
	})
}

// TestP93AllAlwaysReady: then all are taken in turn, each of them passed over n less 1 times between.
func TestP93AllAlwaysReady(t *testing.T) {
	each(t, func(o *order.Order, row []int) {
		for turn := range 3 * len(row) {
			k, is := o.Pick(all)
			if k != row[turn%len(row)] || !is {
				t.Fatalf("of %d, turn %d: Pick is %d, %v", row, turn, k, is)
			}
			take(t, o, k)
		}
		same(t, o, row)
	})
}

// TestP93LongRows: over long rows of sets, with numbers that the order does not have, too, nobody is passed over n times.
func TestP93LongRows(t *testing.T) {
	for n := 1; n <= 6; n++ {
		o, passes := made(t, n), make([]int, n)
		for i := range 5000 {
			ready := api.Set(sample.Mix(n*10000 + i))
			picked, is := o.Pick(ready)
			if is != (ready<<(64-n) != 0) {
				t.Fatalf("of %d: Pick(%x) is %d, %v", o.List(), uint64(ready), picked, is)
			}
			if !is {
				continue
			}
			take(t, o, picked)
			for k := range n {
				switch {
				case k == picked:
					passes[k] = 0
				case ready>>k&1 != 0:
					passes[k]++
				}
				if passes[k] > n-1 || passes[k] > o.Age(k) {
					t.Fatalf("of %d: %d is passed over %d times", o.List(), k, passes[k])
				}
			}
		}
	}
}
