package list_test

import (
	"math"
	"slices"
	"testing"

	"tollbar/api"
	"tollbar/list"
	"tollbar/sample"
)

// outside are numbers that no queue may have, on either side; the low bits of some are those of numbers that may be.
func outside() []int {
	return []int{-1, -2, -3, -1023, -1024, -1025, 1024, 1025, 1026, 2047, 2048, 1 << 16, 1<<16 + 5, 1 << 32, 1<<32 + 5, -1 << 32, -1<<32 + 5, 1 << 62, math.MaxInt, math.MaxInt - 1, math.MinInt, math.MinInt + 1, math.MinInt + 5}
}

// plain is a queue as the document's words tell it: a row.
type plain []int

func (p *plain) put(i int) api.Errno {
	switch {
	case i < 0 || i > 1023:
		return api.ErrArg
	case slices.Contains(*p, i):
		return api.ErrHave
	}
	*p = append(*p, i)
	return api.OK
}

func (p *plain) pop() (int, api.Errno) {
	if len(*p) == 0 {
		return 0, api.ErrNone
	}
	i := (*p)[0]
	*p = slices.Clone((*p)[1:])
	return i, api.OK
}

func (p *plain) drop(i int) api.Errno {
	k := slices.Index(*p, i)
	if k < 0 {
		return api.ErrNone
	}
	*p = slices.Concat((*p)[:k], (*p)[k+1:])
	return api.OK
}

func (p *plain) next(i int) (int, bool) {
	k := slices.Index(*p, i)
	if k < 0 || k == len(*p)-1 {
		return 0, false
	}
	return (*p)[k+1], true
}

func (p *plain) copied() *plain {
	q := slices.Clone(*p)
	return &q
}

// put does it to both, and fails unless they answer the same.
func put(t *testing.T, l *list.List, p *plain, i int) {
	t.Helper()
	before := *p
	if e, want := l.Put(i), p.put(i); e != want {
		t.Fatalf("of %d: Put(%d) is %v, not %v", before, i, e, want)
	}
}

// pop does it to both, and fails unless they answer the same.
func pop(t *testing.T, l *list.List, p *plain) {
	t.Helper()
	before := *p
	i, e := l.Pop()
	if wi, we := p.pop(); i != wi || e != we {
		t.Fatalf("of %d: Pop is %d, %v, not %d, %v", before, i, e, wi, we)
	}
}

// drop does it to both, and fails unless they answer the same.
func drop(t *testing.T, l *list.List, p *plain, i int) {
	t.Helper()
	before := *p
	if e, want := l.Drop(i), p.drop(i); e != want {
		t.Fatalf("of %d: Drop(%d) is %v, not %v", before, i, e, want)
	}
}

// of answers a queue of these, put in turn, and the plain one.
func of(t *testing.T, row ...int) (*list.List, *plain) {
	t.Helper()
	l, p := list.New(), &plain{}
	for _, i := range row {
		put(t, l, p, i)
	}
	return l, p
}

// same fails, unless all that l tells is as p has it; more are asked beside those that are there.
func same(t *testing.T, l *list.List, p *plain, more ...int) {
	t.Helper()
	row := *p
	if got := l.All(); !slices.Equal(got, row) {
		t.Fatalf("of %d: All is %d", row, got)
	}
	if got := l.Len(); got != len(row) {
		t.Fatalf("of %d: Len is %d", row, got)
	}
	want := append(slices.Clone(row), 0)[0]
	if i, is := l.Front(); i != want || is != (len(row) > 0) {
		t.Fatalf("of %d: Front is %d, %v", row, i, is)
	}
	for k, i := range row {
		want := append(slices.Clone(row[k+1:min(k+2, len(row))]), 0)[0]
		if n, is := l.Next(i); n != want || is != (k < len(row)-1) || !l.Has(i) {
			t.Fatalf("of %d: Next(%d) is %d, %v; Has is %v", row, i, n, is, l.Has(i))
		}
	}
	for _, i := range more {
		want, wantIs := p.next(i)
		if n, is := l.Next(i); n != want || is != wantIs || l.Has(i) != slices.Contains(row, i) {
			t.Fatalf("of %d: Next(%d) is %d, %v; Has is %v", row, i, n, is, l.Has(i))
		}
	}
}

// none fails, unless l tells that none of these is there.
func none(t *testing.T, l *list.List, row []int) {
	t.Helper()
	for _, i := range row {
		if n, is := l.Next(i); n != 0 || is || l.Has(i) {
			t.Fatalf("of %d: Next(%d) is %d, %v; Has is %v", l.All(), i, n, is, l.Has(i))
		}
	}
}

// upTo are the numbers from 0 to below n.
func upTo(n int) (row []int) {
	for i := range n {
		row = append(row, i)
	}
	return row
}

// mixed are the numbers from 0 to below n, in an order of its own.
func mixed(n int) []int {
	row := upTo(n)
	slices.SortFunc(row, func(a, b int) int { return int(sample.Mix(a)%100000) - int(sample.Mix(b)%100000) })
	return row
}

// orders are all orders of the numbers of row.
func orders(row []int) (all [][]int) {
	if len(row) == 0 {
		return [][]int{nil}
	}
	for k, i := range row {
		for _, rest := range orders(slices.Concat(row[:k], row[k+1:])) {
			all = append(all, append([]int{i}, rest...))
		}
	}
	return all
}

// rows are queues of none, of one, of some and of all numbers, with the least and the greatest one at either end and in the middle.
func rows() [][]int {
	back := upTo(1024)
	slices.Reverse(back)
	return [][]int{{}, {0}, {1}, {1023}, {0, 1023}, {1023, 0}, {5, 3, 8}, {3, 0, 1023, 7}, {0, 9, 1023}, {1023, 9, 0}, upTo(10), upTo(1024), back, mixed(1024), mixed(1024)[:1023]}
}

func TestP71New(t *testing.T) {
	l, other := list.New(), list.New()
	if l == nil || other == nil || l == other {
		t.Fatal(l, other)
	}
	same(t, l, &plain{}, upTo(1024)...)
	none(t, l, outside())
	l.Put(5)
	same(t, other, &plain{}, 5)
}

func TestP71Example(t *testing.T) {
	l := list.New()
	for _, i := range []int{5, 3, 8} {
		if e := l.Put(i); e != api.OK {
			t.Errorf("Put(%d) is %v", i, e)
		}
	}
	if e := l.Drop(3); e != api.OK {
		t.Errorf("Drop(3) is %v", e)
	}
	if all := l.All(); !slices.Equal(all, []int{5, 8}) {
		t.Errorf("All is %d", all)
	}
	if n, is := l.Next(5); n != 8 || !is {
		t.Errorf("Next(5) is %d, %v", n, is)
	}
	if i, e := l.Pop(); i != 5 || e != api.OK {
		t.Errorf("Pop is %d, %v", i, e)
	}
	if e := l.Put(8); e != api.ErrHave {
		t.Errorf("Put(8) is %v", e)
	}
}

// TestP71PutEach: each number that may be is put alone.
func TestP71PutEach(t *testing.T) {
	for i := range 1024 {
		l := list.New()
		if e := l.Put(i); e != api.OK {
			t.Errorf("Put(%d) is %v", i, e)
		}
		same(t, l, &plain{i}, 0, 1023)
	}
}

func TestP71PutWrong(t *testing.T) {
	for _, row := range rows() {
		l, p := of(t, row...)
		for _, i := range outside() {
			if e := l.Put(i); e != api.ErrArg {
				t.Errorf("Put(%d) is %v", i, e)
			}
		}
		same(t, l, p)
		none(t, l, outside())
	}
}

// TestP71PutTwice: who is there can't be put, wherever it stands, and stays where it was.
func TestP71PutTwice(t *testing.T) {
	for _, row := range rows() {
		l, p := of(t, row...)
		for _, i := range row {
			if e := l.Put(i); e != api.ErrHave {
				t.Errorf("Put(%d) again is %v", i, e)
			}
		}
		same(t, l, p)
	}
}

// TestP71PutAgain: who went by Pop or by Drop can be put again, and is the last one then.
func TestP71PutAgain(t *testing.T) {
	for _, row := range rows()[1:] {
		l, p := of(t, row...)
		for k := range 5 {
			i := row[k%len(row)]
			pop(t, l, p)
			put(t, l, p, i)
			same(t, l, p)
		}
		for _, k := range []int{0, len(row) / 2, len(row) - 1} {
			i := (*p)[k]
			drop(t, l, p, i)
			put(t, l, p, i)
			same(t, l, p)
			if e := l.Put(i); e != api.ErrHave {
				t.Errorf("Put(%d) again is %v", i, e)
			}
		}
	}
}

// TestP71All1024: a queue has room for each number that there is, and all go out as they came in.
func TestP71All1024(t *testing.T) {
	for _, row := range [][]int{upTo(1024), mixed(1024)} {
		l, p := of(t, row...)
		if l.Len() != 1024 {
			t.Errorf("Len is %d", l.Len())
		}
		for k, want := range row {
			if i, e := l.Pop(); i != want || e != api.OK || l.Len() != 1023-k {
				t.Fatalf("Pop %d is %d, %v, not %d; Len is %d", k, i, e, want, l.Len())
			}
			p.pop()
		}
		same(t, l, p, row...)
		pop(t, l, p)
	}
}

// TestP71Empty: of a queue that is new, and of those that came to be empty by each way, none can go.
func TestP71Empty(t *testing.T) {
	for way := range 4 {
		l, p := list.New(), &plain{}
		switch way {
		case 1:
			put(t, l, p, 7)
			pop(t, l, p)
		case 2:
			put(t, l, p, 7)
			drop(t, l, p, 7)
		case 3:
			l, p = of(t, 7, 0, 9)
			drop(t, l, p, 0)
			drop(t, l, p, 9)
			pop(t, l, p)
		}
		for range 2 {
			if i, e := l.Pop(); i != 0 || e != api.ErrNone {
				t.Errorf("way %d: Pop of none is %d, %v", way, i, e)
			}
			for _, i := range append(outside(), 0, 7, 9, 1023) {
				if e := l.Drop(i); e != api.ErrNone {
					t.Errorf("way %d: Drop(%d) of none is %v", way, i, e)
				}
			}
			same(t, l, p, 0, 7, 9, 1023)
			none(t, l, outside())
		}
		put(t, l, p, 0) // and it can be used on
		put(t, l, p, 7)
		same(t, l, p, 9)
	}
}

// TestP71PopZero: 0 that goes is told from 0 beside an error.
func TestP71PopZero(t *testing.T) {
	l, p := of(t, 0)
	if i, e := l.Pop(); i != 0 || e != api.OK {
		t.Errorf("Pop is %d, %v", i, e)
	}
	p.pop()
	same(t, l, p, 0)
	if i, e := l.Pop(); i != 0 || e != api.ErrNone {
		t.Errorf("Pop of none is %d, %v", i, e)
	}
}

// TestP71DropEach: each one goes alone, from the front, the middle and the end, and the only one; it can't go twice.
func TestP71DropEach(t *testing.T) {
	for _, row := range [][]int{{0}, {1023}, {0, 1023}, {1023, 0}, {5, 3, 8}, {3, 0, 1023, 7}, upTo(10), mixed(40)} {
		for _, i := range row {
			l, p := of(t, row...)
			drop(t, l, p, i)
			same(t, l, p, row...)
			for range 2 {
				if e := l.Drop(i); e != api.ErrNone {
					t.Errorf("of %d: Drop(%d) again is %v", row, i, e)
				}
			}
			same(t, l, p, row...)
			put(t, l, p, i)
			same(t, l, p)
		}
	}
}

// TestP71DropNotThere: who is not there can't go, and nothing is changed by that; -1 and 1,024 are not there either.
func TestP71DropNotThere(t *testing.T) {
	for _, row := range rows() {
		l, p := of(t, row...)
		for _, i := range append(outside(), mixed(1024)[:50]...) {
			if slices.Contains(row, i) {
				continue
			}
			if e := l.Drop(i); e != api.ErrNone {
				t.Errorf("Drop(%d) is %v", i, e)
			}
		}
		same(t, l, p)
	}
}

func TestP71Nil(t *testing.T) {
	var l *list.List
	for _, i := range append(outside(), 0, 1, 1023) {
		if e := l.Put(i); e != api.ErrNil {
			t.Errorf("Put(%d) is %v", i, e)
		}
		if e := l.Drop(i); e != api.ErrNil {
			t.Errorf("Drop(%d) is %v", i, e)
		}
	}
	if i, e := l.Pop(); i != 0 || e != api.ErrNil {
		t.Errorf("Pop is %d, %v", i, e)
	}
}

func TestP72Nil(t *testing.T) {
	var l *list.List
	if i, is := l.Front(); i != 0 || is {
		t.Errorf("Front is %d, %v", i, is)
	}
	none(t, l, append(outside(), 0, 1, 1023))
	if l.Len() != 0 || len(l.All()) != 0 || l.Copy() != nil {
		t.Error(l.Len(), l.All(), l.Copy())
	}
}

// TestP72Told: what is told of each queue, of those that are there, of those that are not, and of those that can't be.
func TestP72Told(t *testing.T) {
	for _, row := range rows() {
		l, p := of(t, row...)
		same(t, l, p, mixed(1024)[:200]...)
		none(t, l, outside())
		same(t, l, p) // nothing is changed by being asked
	}
}

// TestP72FrontNext: from the front on, one behind the other, up to the last one, behind which there is none.
func TestP72FrontNext(t *testing.T) {
	for _, row := range rows()[1:] {
		l, _ := of(t, row...)
		i, is := l.Front()
		var got []int
		for is && len(got) <= len(row) {
			got = append(got, i)
			i, is = l.Next(i)
		}
		if !slices.Equal(got, row) || i != 0 || is {
			t.Fatalf("of %d: one behind the other they are %d", row, got)
		}
		if n, is := l.Next(row[len(row)-1]); n != 0 || is {
			t.Errorf("of %d: behind the last one is %d, %v", row, n, is)
		}
	}
}

// TestP72Zero: 0 that is there is told from 0 beside a false.
func TestP72Zero(t *testing.T) {
	l, _ := of(t, 4, 0)
	if n, is := l.Next(4); n != 0 || !is {
		t.Errorf("Next(4) is %d, %v", n, is)
	}
	if n, is := l.Next(0); n != 0 || is {
		t.Errorf("Next(0) is %d, %v", n, is)
	}
	l.Pop()
	if i, is := l.Front(); i != 0 || !is {
		t.Errorf("Front is %d, %v", i, is)
	}
	l.Pop()
	if i, is := l.Front(); i != 0 || is {
		t.Errorf("Front of none is %d, %v", i, is)
	}
}

// TestP72Gone: nothing is told of one that went, nor of it by its neighbours.
func TestP72Gone(t *testing.T) {
	l, p := of(t, 2, 0, 1, 3)
	drop(t, l, p, 0)
	none(t, l, []int{0})
	if n, is := l.Next(2); n != 1 || !is {
		t.Errorf("Next(2) is %d, %v", n, is)
	}
	drop(t, l, p, 3)
	none(t, l, []int{0, 3})
	pop(t, l, p)
	none(t, l, []int{0, 2, 3})
	same(t, l, p, upTo(5)...)
}

// TestP72LastHasNone: behind whoever is the last one there is none, be it that the one behind it went; one that comes then is behind it.
func TestP72LastHasNone(t *testing.T) {
	l, p := of(t, 6, 1)
	put(t, l, p, 9)
	drop(t, l, p, 9)
	if n, is := l.Next(1); n != 0 || is || !l.Has(1) {
		t.Errorf("Next(1) is %d, %v", n, is)
	}
	put(t, l, p, 4)
	if n, is := l.Next(1); n != 4 || !is {
		t.Errorf("Next(1) is %d, %v", n, is)
	}
}

// TestP72AllIsNew: an answered list is its asker's: what is done to it changes neither the queue nor another list, nor the other way round.
func TestP72AllIsNew(t *testing.T) {
	for _, row := range rows() {
		l, p := of(t, row...)
		one, other := l.All(), l.All()
		for k := range one {
			one[k] = -7
		}
		one = append(one[:0], 5, 5, 5)
		same(t, l, p)
		if !slices.Equal(other, row) {
			t.Errorf("of %d: a list is changed by another one: %d", row, other)
		}
		if len(row) == 0 {
			continue
		}
		pop(t, l, p)
		put(t, l, p, row[0])
		if !slices.Equal(other, row) {
			t.Errorf("of %d: a list is changed by what is done to the queue: %d", row, other)
		}
		same(t, l, p)
	}
}

// churn does a step to both, which hangs on k: of numbers that are few, so that many of them are there.
func churn(t *testing.T, l *list.List, p *plain, few, k int) {
	t.Helper()
	luck := sample.Mix(k)
	i := int(luck >> 8 % uint64(few))
	switch luck % 8 {
	case 0:
		pop(t, l, p)
	case 1, 2, 3:
		drop(t, l, p, i)
	default:
		put(t, l, p, i)
	}
}

// TestP72Copy: a copy is the same, and both go on apart.
func TestP72Copy(t *testing.T) {
	for n, row := range rows() {
		l, p := of(t, row...)
		c, q := l.Copy(), p.copied()
		if c == l || c == nil {
			t.Fatal("a copy is the queue itself, or none")
		}
		same(t, c, q, upTo(5)...)
		for k := range 30 { // the queue goes on, the copy stays
			churn(t, l, p, 20, n*1000+k)
		}
		same(t, l, p, upTo(20)...)
		same(t, c, q, upTo(20)...)
		for k := range 30 { // and the other way round
			churn(t, c, q, 20, n*1000+500+k)
		}
		same(t, c, q, upTo(20)...)
		same(t, l, p, upTo(20)...)
		same(t, c.Copy().Copy(), q, upTo(20)...)
	}
}

// TestP72CopyGoesOut: of a queue and its copy each one goes out in its order, whichever is emptied first.
func TestP72CopyGoesOut(t *testing.T) {
	for _, row := range rows() {
		l, p := of(t, row...)
		c, q := l.Copy(), p.copied()
		for range row {
			pop(t, l, p)
		}
		same(t, l, p)
		same(t, c, q)
		for range row {
			pop(t, c, q)
		}
		pop(t, c, q)
		put(t, c, q, 3)
		same(t, l, p, 3)
		same(t, c, q)
	}
}

// TestP73AllShort holds queues against a plain row, over all rows of 6 steps: a Pop, or a Put or a Drop of one of three numbers or of one that may not be.
func TestP73AllShort(t *testing.T) {
	const long = 6
	of := []int{0, 5, 1023, -1}
	kinds, all := 1+2*len(of), 1
	for range long {
		all *= kinds
	}
	for row := range all {
		l, p := list.New(), &plain{}
		for k, left := 0, row; k < long; k, left = k+1, left/kinds {
			switch do := left % kinds; {
			case do == 0:
				pop(t, l, p)
			case do <= len(of):
				put(t, l, p, of[do-1])
			default:
				drop(t, l, p, of[do-1-len(of)])
			}
		}
		same(t, l, p, of...)
	}
}

// TestP73DropOrders: of up to 5, put in each order and dropped in each order, the others keep theirs; those left go out as they came in.
func TestP73DropOrders(t *testing.T) {
	for n := 1; n <= 5; n++ {
		for _, in := range orders(upTo(n)) {
			for _, gone := range orders(upTo(n)) {
				l, p := of(t, in...)
				for _, i := range gone[:n-1] {
					drop(t, l, p, i)
					same(t, l, p, in...)
				}
				pop(t, l, p)
				pop(t, l, p)
			}
		}
	}
}

// TestP73EachSet: whichever of up to 8 go, those left go out as they came in, with those that come behind them.
func TestP73EachSet(t *testing.T) {
	in := []int{3, 1023, 0, 8, 5, 1, 700, 2}
	for bits := range 1 << len(in) {
		l, p := of(t, in...)
		for k, i := range in {
			if bits>>k&1 != 0 {
				drop(t, l, p, i)
			}
		}
		same(t, l, p, in...)
		for k, i := range in { // who went comes again, behind all
			if bits>>k&1 != 0 {
				put(t, l, p, i)
			}
		}
		same(t, l, p)
		for range len(in) + 1 {
			pop(t, l, p)
		}
	}
}

// TestP73LongRows holds queues against a plain row over many steps, of which now more are Puts, now more are not; of few numbers and of all.
func TestP73LongRows(t *testing.T) {
	for _, few := range []int{1, 2, 5, 20, 1024} {
		l, p := list.New(), &plain{}
		for k := range 6000 {
			luck := sample.Mix(few*100000 + k)
			i := int(luck >> 8 % uint64(few+2)) // a number more than may be, at times
			if few == 1024 {
				i--
			}
			more := uint64(3 + k/1500%2*3) // 3 or 6 of 8
			switch {
			case luck%8 < more:
				put(t, l, p, i)
			case luck%8 == 7:
				pop(t, l, p)
			default:
				drop(t, l, p, i)
			}
			if few < 100 || k%100 == 0 {
				same(t, l, p, 0, 1, i)
			}
		}
		same(t, l, p)
	}
}

// TestP73InTurn: who is not dropped goes out in the order in which it came in, however many come and go meanwhile.
func TestP73InTurn(t *testing.T) {
	l, p := of(t, mixed(1024)...)
	for k := range 3000 { // the first one goes and comes again as the last one; at times one from the middle does
		i := (*p)[0]
		pop(t, l, p)
		if k%7 == 0 {
			mid := (*p)[len(*p)/2]
			drop(t, l, p, mid)
			put(t, l, p, mid)
		}
		put(t, l, p, i)
	}
	same(t, l, p)
	for range 1025 {
		pop(t, l, p)
	}
	same(t, l, p, 0, 1023)
}
