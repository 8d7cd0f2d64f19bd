package fifo_test

import (
	"math"
	"slices"
	"testing"

	"tollbar/api"
	"tollbar/fifo"
	"tollbar/sample"
	"tollbar/set"
)

// outside are numbers that no task has, on either side; the low bits of some are those of numbers that one may have.
func outside() []int {
	return []int{-1, -2, -3, -31, -32, -33, -64, 32, 33, 34, 63, 64, 65, 96, 255, 256, 1 << 16, 1<<16 + 5, 1 << 31, 1<<32 - 1, 1 << 32, 1<<32 + 5, -1 << 32, -1<<32 + 5, 1 << 62, math.MaxInt, math.MaxInt - 1, math.MinInt, math.MinInt + 1, math.MinInt + 5}
}

// upTo are the numbers from 0 to below n.
func upTo(n int) (row []int) {
	for k := range n {
		row = append(row, k)
	}
	return row
}

// mixed are n of the numbers from 0 to 31, in an order that hangs on luck.
func mixed(n, luck int) []int {
	row := upTo(32)
	slices.SortFunc(row, func(a, b int) int { return int(sample.Mix(a+100*luck)%100000) - int(sample.Mix(b+100*luck)%100000) })
	return row[:n]
}

// plain is a row as the document's words tell it.
type plain struct {
	most int
	row  []int
}

func (p *plain) push(k int) api.Errno {
	switch {
	case k < 0 || k > 31:
		return api.ErrArg
	case slices.Contains(p.row, k):
		return api.ErrHave
	case len(p.row) == p.most:
		return api.ErrFull
	}
	p.row = append(p.row, k)
	return api.OK
}

func (p *plain) pop() (int, api.Errno) {
	if len(p.row) == 0 {
		return 0, api.ErrNone
	}
	k := p.row[0]
	p.row = slices.Clone(p.row[1:])
	return k, api.OK
}

func (p *plain) drop(k int) api.Errno {
	at := slices.Index(p.row, k)
	if at < 0 {
		return api.ErrNone
	}
	p.row = slices.Concat(p.row[:at], p.row[at+1:])
	return api.OK
}

func (p *plain) copied() *plain { return &plain{p.most, slices.Clone(p.row)} }

// push does it to both, and fails unless they answer the same.
func push(t *testing.T, f *fifo.Fifo, p *plain, k int) {
	t.Helper()
	before := p.row
	if e, want := f.Push(k), p.push(k); e != want {
		t.Fatalf("most %d, of %d: Push(%d) is %v, not %v", p.most, before, k, e, want)
	}
}

// pop does it to both, and fails unless they answer the same.
func pop(t *testing.T, f *fifo.Fifo, p *plain) {
	t.Helper()
	before := p.row
	k, e := f.Pop()
	if want, wrong := p.pop(); k != want || e != wrong {
		t.Fatalf("most %d, of %d: Pop is %d, %v, not %d, %v", p.most, before, k, e, want, wrong)
	}
}

// drop does it to both, and fails unless they answer the same.
func drop(t *testing.T, f *fifo.Fifo, p *plain, k int) {
	t.Helper()
	before := p.row
	if e, want := f.Drop(k), p.drop(k); e != want {
		t.Fatalf("most %d, of %d: Drop(%d) is %v, not %v", p.most, before, k, e, want)
	}
}

// made answers a row of that most, and the plain one.
func made(t *testing.T, most int) (*fifo.Fifo, *plain) {
	t.Helper()
	f, e := fifo.New(most)
	if f == nil || e != api.OK {
		t.Fatalf("New(%d) is %v, %v", most, f, e)
	}
	return f, &plain{most: most}
}

// turned answers a row of that most that has these, pushed behind so many that were pushed and popped, and the plain one.
func turned(t *testing.T, most, by int, row ...int) (*fifo.Fifo, *plain) {
	t.Helper()
	f, p := made(t, most)
	for k := range by {
		push(t, f, p, k%32)
		pop(t, f, p)
	}
	for _, k := range row {
		push(t, f, p, k)
	}
	return f, p
}

// same fails, unless all that f tells is as p has it, of each number from -1 to 32.
func same(t *testing.T, f *fifo.Fifo, p *plain) {
	t.Helper()
	if l := f.List(); !slices.Equal(l, p.row) {
		t.Fatalf("most %d, of %d: List is %d", p.most, p.row, l)
	}
	if n := f.Len(); n != len(p.row) {
		t.Fatalf("most %d, of %d: Len is %d", p.most, p.row, n)
	}
	front := append(slices.Clone(p.row), 0)[0]
	if k, is := f.Front(); k != front || is != (len(p.row) > 0) {
		t.Fatalf("most %d, of %d: Front is %d, %v", p.most, p.row, k, is)
	}
	var bits api.Set
	for k := -1; k <= 32; k++ {
		at := slices.Index(p.row, k)
		if at >= 0 {
			bits |= 1 << k
		}
		if f.At(k) != at || f.Has(k) != (at >= 0) {
			t.Fatalf("most %d, of %d: At(%d) is %d, Has is %v", p.most, p.row, k, f.At(k), f.Has(k))
		}
	}
	if s := f.Set(); s != bits {
		t.Fatalf("most %d, of %d: Set is %x, not %x", p.most, p.row, uint64(s), uint64(bits))
	}
}

// each does it to rows of some mosts, of each count, that stand anywhere in their arrays, over the end, too.
func each(t *testing.T, do func(f *fifo.Fifo, p *plain)) {
	t.Helper()
	for _, most := range []int{1, 2, 3, 7, 31, 32} {
		for n := range most + 1 {
			for by := 0; by <= 65; by += 1 + n/4 {
				f, p := turned(t, most, by, mixed(n, by)...)
				do(f, p)
			}
		}
	}
}

func TestP81New(t *testing.T) {
	for most := 1; most <= 32; most++ {
		f, p := made(t, most)
		same(t, f, p)
	}
	for _, most := range append(outside(), 0) {
		if most == 32 {
			continue
		}
		if f, e := fifo.New(most); f != nil || e != api.ErrArg {
			t.Errorf("New(%d) is %v, %v", most, f, e)
		}
	}
}

func TestP81NewIsOfItsOwn(t *testing.T) {
	a, p := made(t, 3)
	b, q := made(t, 3)
	if a == b {
		t.Fatal("two rows are one")
	}
	push(t, a, p, 5)
	same(t, a, p)
	same(t, b, q)
}

func TestP81Example(t *testing.T) {
	f, _ := made(t, 32)
	if e, g, h := f.Push(5), f.Push(2), f.Push(5); e != api.OK || g != api.OK || h != api.ErrHave {
		t.Error(e, g, h)
	}
	if f.At(2) != 1 {
		t.Error(f.At(2))
	}
	for _, want := range []int{5, 2} {
		if k, e := f.Pop(); k != want || e != api.OK {
			t.Error(k, e)
		}
	}
	if k, e := f.Pop(); k != 0 || e != api.ErrNone {
		t.Error(k, e)
	}
}

// TestP81PushEach: each task that may be goes into a row of each most, alone, and out of it.
func TestP81PushEach(t *testing.T) {
	for most := 1; most <= 32; most++ {
		for k := range 32 {
			f, p := made(t, most)
			push(t, f, p, k)
			same(t, f, &plain{most, []int{k}})
			pop(t, f, p)
			same(t, f, &plain{most: most})
		}
	}
}

// TestP81PushWrong: who is no task is told ahead of a row that is full.
func TestP81PushWrong(t *testing.T) {
	each(t, func(f *fifo.Fifo, p *plain) {
		for _, k := range outside() {
			if e := f.Push(k); e != api.ErrArg {
				t.Fatalf("most %d, of %d: Push(%d) is %v", p.most, p.row, k, e)
			}
		}
		same(t, f, p)
	})
}

// TestP81PushTwice: who is there can't be pushed, which is told ahead of a row that is full; it stays where it was.
func TestP81PushTwice(t *testing.T) {
	each(t, func(f *fifo.Fifo, p *plain) {
		for _, k := range p.row {
			if e := f.Push(k); e != api.ErrHave {
				t.Fatalf("most %d, of %d: Push(%d) again is %v", p.most, p.row, k, e)
			}
		}
		same(t, f, p)
	})
}

// TestP81PushUpToMost: each most, from each place on, takes just so many, and nothing of one too many.
func TestP81PushUpToMost(t *testing.T) {
	for most := 1; most <= 32; most++ {
		for by := range 34 {
			f, p := turned(t, most, by)
			row := mixed(32, most)
			for n, k := range row {
				e := f.Push(k)
				if n < most {
					p.row = append(p.row, k)
				}
				if (e == api.OK) != (n < most) || e != api.OK && e != api.ErrFull {
					t.Fatalf("most %d, turned by %d: Push %d is %v", most, by, n, e)
				}
			}
			same(t, f, p)
		}
	}
}

// TestP81FullAndBack: one that is full takes one more just when one went, by Pop or by Drop.
func TestP81FullAndBack(t *testing.T) {
	for most := 1; most <= 31; most++ {
		for by := range 34 {
			row := mixed(most+1, by)
			f, p := turned(t, most, by, row[:most]...)
			if e := f.Push(row[most]); e != api.ErrFull {
				t.Fatalf("most %d: Push is %v", most, e)
			}
			pop(t, f, p)
			push(t, f, p, row[most])
			same(t, f, p)
			if e := f.Push(row[0]); e != api.ErrFull {
				t.Fatalf("most %d: Push is %v", most, e)
			}
			drop(t, f, p, p.row[by%most])
			push(t, f, p, row[0])
			same(t, f, p)
		}
	}
}

// TestP81PushAgain: who went by Pop or by Drop can be pushed again, and stands last then.
func TestP81PushAgain(t *testing.T) {
	each(t, func(f *fifo.Fifo, p *plain) {
		if len(p.row) == 0 {
			return
		}
		k := p.row[0]
		pop(t, f, p)
		push(t, f, p, k)
		same(t, f, p)
		for _, at := range []int{0, len(p.row) / 2, len(p.row) - 1} {
			k := p.row[at]
			drop(t, f, p, k)
			push(t, f, p, k)
			same(t, f, p)
			if e := f.Push(k); e != api.ErrHave {
				t.Fatalf("most %d, of %d: Push(%d) again is %v", p.most, p.row, k, e)
			}
		}
	})
}

// TestP81PopDownToNone: all go out in order, each once, and nothing more.
func TestP81PopDownToNone(t *testing.T) {
	each(t, func(f *fifo.Fifo, p *plain) {
		row := p.row
		for _, want := range row {
			if k, e := f.Pop(); k != want || e != api.OK {
				t.Fatalf("most %d, of %d: Pop is %d, %v, not %d", p.most, row, k, e, want)
			}
			p.row = p.row[1:]
			same(t, f, p)
		}
		for range 2 {
			if k, e := f.Pop(); k != 0 || e != api.ErrNone {
				t.Fatalf("most %d: Pop of none is %d, %v", p.most, k, e)
			}
			same(t, f, p)
		}
	})
}

// TestP81PopZero: a task 0 that goes is told from the 0 beside an error.
func TestP81PopZero(t *testing.T) {
	f, _ := turned(t, 1, 3, 0)
	if k, e := f.Pop(); k != 0 || e != api.OK {
		t.Error(k, e)
	}
	if k, e := f.Pop(); k != 0 || e != api.ErrNone {
		t.Error(k, e)
	}
}

// TestP81DropEach: whoever goes, from the front, the middle or the end, or the only one: all others stay in order, and go out so.
func TestP81DropEach(t *testing.T) {
	each(t, func(f *fifo.Fifo, p *plain) {
		for _, k := range p.row {
			g, q := f.Copy(), p.copied()
			drop(t, g, q, k)
			if len(q.row) != len(p.row)-1 {
				t.Fatalf("of %d: %d are left without %d", p.row, q.row, k)
			}
			same(t, g, q)
			if e := g.Drop(k); e != api.ErrNone {
				t.Fatalf("of %d: Drop(%d) again is %v", q.row, k, e)
			}
			for range len(q.row) + 1 {
				pop(t, g, q)
			}
			same(t, g, q)
		}
	})
}

// TestP81DropNone: who is not there can't be dropped: those that never came, those that are no tasks, those that went.
func TestP81DropNone(t *testing.T) {
	each(t, func(f *fifo.Fifo, p *plain) {
		for _, k := range append(outside(), upTo(32)...) {
			if slices.Contains(p.row, k) {
				continue
			}
			if e := f.Drop(k); e != api.ErrNone {
				t.Fatalf("most %d, of %d: Drop(%d) is %v", p.most, p.row, k, e)
			}
		}
		same(t, f, p)
		for _, k := range slices.Clone(p.row) {
			pop(t, f, p)
			if e := f.Drop(k); e != api.ErrNone {
				t.Fatalf("most %d, of %d: Drop(%d), that went, is %v", p.most, p.row, k, e)
			}
		}
		same(t, f, p)
	})
}

// TestP81DropTheOnlyOne: and the row can be used on.
func TestP81DropTheOnlyOne(t *testing.T) {
	for _, most := range []int{1, 2, 32} {
		for by := range 66 {
			f, p := turned(t, most, by, by%32)
			drop(t, f, p, by%32)
			same(t, f, &plain{most: most})
			pop(t, f, p)
			push(t, f, p, 31)
			same(t, f, &plain{most, []int{31}})
		}
	}
}

func TestP81Nil(t *testing.T) {
	var f *fifo.Fifo
	for _, k := range append(outside(), 0, 5, 31) {
		if e := f.Push(k); e != api.ErrNil {
			t.Errorf("Push(%d) is %v", k, e)
		}
		if e := f.Drop(k); e != api.ErrNil {
			t.Errorf("Drop(%d) is %v", k, e)
		}
	}
	if k, e := f.Pop(); k != 0 || e != api.ErrNil {
		t.Error(k, e)
	}
}

func TestP82Nil(t *testing.T) {
	var f *fifo.Fifo
	if k, is := f.Front(); k != 0 || is {
		t.Error(k, is)
	}
	for _, k := range append(outside(), 0, 5, 31) {
		if f.Has(k) || f.At(k) != -1 {
			t.Errorf("Has(%d) is %v, At is %d", k, f.Has(k), f.At(k))
		}
	}
	if f.Len() != 0 || len(f.List()) != 0 || f.Set() != 0 || f.Copy() != nil {
		t.Error(f.Len(), f.List(), f.Set(), f.Copy())
	}
}

// TestP82OfOne: what is told of one row, written out, as it is pushed, dropped and popped.
func TestP82OfOne(t *testing.T) {
	f, _ := made(t, 3)
	for _, c := range []struct {
		what  string
		do    func() api.Errno
		row   []int
		front int
		is    bool
		bits  api.Set
		at31  int
	}{
		{"nothing", func() api.Errno { return api.OK }, nil, 0, false, 0, -1},
		{"Push(31)", func() api.Errno { return f.Push(31) }, []int{31}, 31, true, 1 << 31, 0},
		{"Push(0)", func() api.Errno { return f.Push(0) }, []int{31, 0}, 31, true, 1<<31 | 1, 0},
		{"Push(3)", func() api.Errno { return f.Push(3) }, []int{31, 0, 3}, 31, true, 1<<31 | 9, 0},
		{"Drop(31)", func() api.Errno { return f.Drop(31) }, []int{0, 3}, 0, true, 9, -1},
		{"Push(31)", func() api.Errno { return f.Push(31) }, []int{0, 3, 31}, 0, true, 1<<31 | 9, 2},
		{"Pop", func() api.Errno { _, e := f.Pop(); return e }, []int{3, 31}, 3, true, 1<<31 | 8, 1},
		{"Drop(3)", func() api.Errno { return f.Drop(3) }, []int{31}, 31, true, 1 << 31, 0},
		{"Pop", func() api.Errno { _, e := f.Pop(); return e }, nil, 0, false, 0, -1},
	} {
		if e := c.do(); e != api.OK {
			t.Errorf("%s is %v", c.what, e)
		}
		if l := f.List(); !slices.Equal(l, c.row) || f.Len() != len(c.row) {
			t.Errorf("behind %s: List is %d, Len is %d", c.what, l, f.Len())
		}
		if k, is := f.Front(); k != c.front || is != c.is {
			t.Errorf("behind %s: Front is %d, %v", c.what, k, is)
		}
		if f.Set() != c.bits || f.At(31) != c.at31 || f.Has(31) != (c.at31 >= 0) {
			t.Errorf("behind %s: Set is %x, At(31) is %d, Has(31) is %v", c.what, uint64(f.Set()), f.At(31), f.Has(31))
		}
	}
}

// TestP82Each: what is told of rows wherever they stand in their arrays; a number that is no task is in none of them.
func TestP82Each(t *testing.T) {
	each(t, func(f *fifo.Fifo, p *plain) {
		same(t, f, p)
		for _, k := range outside() {
			if f.Has(k) || f.At(k) != -1 {
				t.Fatalf("of %d: Has(%d) is %v, At is %d", p.row, k, f.Has(k), f.At(k))
			}
		}
		if l := set.List(f.Set()); !slices.Equal(l, slices.Sorted(slices.Values(p.row))) {
			t.Fatalf("of %d: the set has %d", p.row, l)
		}
	})
}

// TestP82ListIsNew: what is done to a list, or behind it to the row, changes neither the other one nor the next list.
func TestP82ListIsNew(t *testing.T) {
	for by := range 66 {
		f, p := turned(t, 4, by, 1, 2, 3)
		l, again := f.List(), f.List()
		l[0], l[1], l[2] = 7, 8, 9
		l = append(l, 10)
		same(t, f, p)
		if !slices.Equal(again, []int{1, 2, 3}) {
			t.Fatalf("a list that was answered ahead is %d", again)
		}
		push(t, f, p, 4)
		drop(t, f, p, 2)
		pop(t, f, p)
		if !slices.Equal(again, []int{1, 2, 3}) || !slices.Equal(l, []int{7, 8, 9, 10}) {
			t.Fatalf("lists that were answered ahead are %d, %d", again, l)
		}
		same(t, f, p)
	}
}

// churn does one thing to both that hangs on luck: of few tasks and of two that may not be, more or fewer of it Pushes.
func churn(t *testing.T, f *fifo.Fifo, p *plain, few, luck int, more uint64) {
	t.Helper()
	x := sample.Mix(luck)
	k := int(x>>8%uint64(few+2)) - 1
	switch {
	case x%8 < more:
		push(t, f, p, k)
	case x%8 == 7:
		drop(t, f, p, k)
	default:
		pop(t, f, p)
	}
}

// TestP82Copy: a copy is the same, and both go on apart.
func TestP82Copy(t *testing.T) {
	each(t, func(f *fifo.Fifo, p *plain) {
		c, q := f.Copy(), p.copied()
		if c == f || c == nil {
			t.Fatal("a copy is the row itself, or none")
		}
		same(t, c, q)
		for k := range 12 { // the row goes on, the copy stays
			churn(t, f, p, 32, k, 4)
		}
		same(t, f, p)
		same(t, c, q)
		for k := range 12 { // and the other way round
			churn(t, c, q, 32, 100+k, 4)
		}
		same(t, c, q)
		same(t, f, p)
		same(t, c.Copy().Copy(), q)
	})
}

// TestP82CopyGoesOut: of a row and its copy each one goes out in its order, and takes as many as it had room for.
func TestP82CopyGoesOut(t *testing.T) {
	each(t, func(f *fifo.Fifo, p *plain) {
		c, q := f.Copy(), p.copied()
		for range len(p.row) + 1 {
			pop(t, f, p)
		}
		same(t, c, q)
		for k := range 32 {
			push(t, c, q, k)
		}
		same(t, f, p)
		same(t, c, q)
		if c.Len() != q.most {
			t.Fatalf("most %d: a copy takes %d", q.most, c.Len())
		}
	})
}

// TestP83AllShort holds rows against plain ones, over all rows of 5 steps, of each most up to 3, that begin short of the array's end and go on over it: a Pop, or a Push or a Drop of one of three tasks or of one that is none.
func TestP83AllShort(t *testing.T) {
	const long = 5
	of := []int{0, 5, 31, -1}
	kinds, all := 1+2*len(of), 1
	for range long {
		all *= kinds
	}
	for n := range 9 {
		start, none := turned(t, 1+n%3, 29+n/3)
		for row := range all {
			f, p := start.Copy(), none.copied()
			for k, left := 0, row; k < long; k, left = k+1, left/kinds {
				switch do := left % kinds; {
				case do == 0:
					pop(t, f, p)
				case do <= len(of):
					push(t, f, p, of[do-1])
				default:
					drop(t, f, p, of[do-1-len(of)])
				}
			}
			same(t, f, p)
		}
	}
}

// TestP83LongRows holds rows against plain ones over many steps, so that all goes around often: by turns more of them fill it, and empty it.
func TestP83LongRows(t *testing.T) {
	for most := 1; most <= 32; most++ {
		for _, few := range []int{2, most, 32} {
			f, p := made(t, most)
			for k := range 1500 {
				churn(t, f, p, few, most*100000+few*10000+k, uint64(3+k/250%2*3))
				same(t, f, p)
			}
		}
	}
}

// TestP83BehindJustAsMany: whoever has so many ahead of it is popped behind just as many, and one, however many come behind meanwhile; ahead of it there is one fewer behind each Pop.
func TestP83BehindJustAsMany(t *testing.T) {
	each(t, func(f *fifo.Fifo, p *plain) {
		for at, k := range p.row {
			g, q := f.Copy(), p.copied()
			for i := range at + 1 {
				if g.At(k) != at-i {
					t.Fatalf("of %d, behind %d: At(%d) is %d", p.row, i, k, g.At(k))
				}
				gone, e := g.Pop()
				if e != api.OK || (gone == k) != (i == at) {
					t.Fatalf("of %d, %d ahead of %d: Pop %d is %d, %v", p.row, at, k, i, gone, e)
				}
				q.pop()
				for _, more := range []int{gone, int(sample.Mix(at+i) % 32)} { // who went comes again behind it, and another one
					if more != k {
						push(t, g, q, more)
					}
				}
			}
			same(t, g, q)
		}
	})
}

// TestP83DropAhead: one dropped from ahead makes it one fewer; one dropped from behind makes no difference.
func TestP83DropAhead(t *testing.T) {
	each(t, func(f *fifo.Fifo, p *plain) {
		for _, gone := range p.row {
			g := f.Copy()
			g.Drop(gone)
			for at, k := range p.row {
				want := at
				switch {
				case k == gone:
					want = -1
				case at > f.At(gone):
					want--
				}
				if g.At(k) != want {
					t.Fatalf("of %d without %d: At(%d) is %d, not %d", p.row, gone, k, g.At(k), want)
				}
			}
		}
	})
}

// TestP83InTurn: who is first goes and comes again as the last one, over and over: all come in turn.
func TestP83InTurn(t *testing.T) {
	for most := 1; most <= 32; most++ {
		row := mixed(most, most)
		f, p := turned(t, most, most, row...)
		for k := range 200 {
			if first, is := f.Front(); first != row[k%most] || !is {
				t.Fatalf("most %d, turn %d: Front is %d, %v", most, k, first, is)
			}
			pop(t, f, p)
			push(t, f, p, row[k%most])
			same(t, f, p)
		}
	}
}
