package pool_test

import (
	"math"
	"slices"
	"testing"

	"tollbar/api"
	"tollbar/pool"
	"tollbar/sample"
)

// sudog answers one whose fields are unlike those of another n.
func sudog(n int) api.Sudog {
	return api.Sudog{Task: n + 1, Case: -n - 2, Send: n%2 == 0, Val: int64(sample.Mix(n)), Turn: sample.Mix(n + 1000000)}
}

// odd are sudogs that are all zero, all but zero, or at an end of what a field can have.
func odd() []api.Sudog {
	return []api.Sudog{
		{},
		{Task: 1}, {Case: 1}, {Send: true}, {Val: 1}, {Turn: 1},
		{Task: api.NoTask}, {Case: api.Plain}, {Val: -1},
		{Task: math.MaxInt, Case: math.MaxInt, Send: true, Val: math.MaxInt64, Turn: math.MaxUint64},
		{Task: math.MinInt, Case: math.MinInt, Val: math.MinInt64, Turn: 1 << 63},
	}
}

// sizes are how many slots pools are tried with.
func sizes() []int { return []int{1, 2, 3, 4, 63, 64, 65, 1000, 1023, 1024} }

// outside are slots that a pool of n has not, on either side; the low bits of some are those of slots that are there.
func outside(n int) []int {
	return []int{-1, -2, -n, -n - 1, n, n + 1, 2 * n, 1024, 1025, 1 << 16, 1 << 32, -1 << 32, 1 << 62, math.MaxInt, math.MinInt, math.MinInt + 1}
}

// plain is a pool as the document's words tell it: who has a slot, and the free list, its first one at the end.
type plain struct {
	n    int
	has  map[int]api.Sudog
	free []int
}

func newPlain(n int) *plain {
	p := &plain{n: n, has: map[int]api.Sudog{}}
	for i := n - 1; i >= 0; i-- {
		p.free = append(p.free, i)
	}
	return p
}

func (p *plain) take(x api.Sudog) (int, api.Errno) {
	if len(p.free) == 0 {
		return 0, api.ErrFull
	}
	i := p.free[len(p.free)-1]
	p.free = p.free[:len(p.free)-1]
	p.has[i] = x
	return i, api.OK
}

func (p *plain) give(i int) api.Errno {
	if _, is := p.has[i]; !is {
		return api.ErrNone
	}
	delete(p.has, i)
	p.free = append(p.free, i)
	return api.OK
}

func (p *plain) list() (l []int) {
	for i := range p.n {
		if _, is := p.has[i]; is {
			l = append(l, i)
		}
	}
	return l
}

func (p *plain) copied() *plain {
	q := &plain{n: p.n, has: map[int]api.Sudog{}, free: slices.Clone(p.free)}
	for i, x := range p.has {
		q.has[i] = x
	}
	return q
}

// made answers a pool of n slots.
func made(t *testing.T, n int) *pool.Pool {
	t.Helper()
	p, e := pool.New(n)
	if p == nil || e != api.OK {
		t.Fatalf("New(%d) is %v, %v", n, p, e)
	}
	return p
}

// take does it to both, and fails unless they answer the same.
func take(t *testing.T, p *pool.Pool, q *plain, x api.Sudog) int {
	t.Helper()
	i, e := p.Take(x)
	if wi, we := q.take(x); i != wi || e != we {
		t.Fatalf("of %d: Take is %d, %v, not %d, %v", q.n, i, e, wi, we)
	}
	return i
}

// give does it to both, and fails unless they answer the same.
func give(t *testing.T, p *pool.Pool, q *plain, i int) {
	t.Helper()
	e := p.Give(i)
	if we := q.give(i); e != we {
		t.Fatalf("of %d: Give(%d) is %v, not %v", q.n, i, e, we)
	}
}

// full answers a pool of n slots that are all taken, and the plain one.
func full(t *testing.T, n int) (*pool.Pool, *plain) {
	t.Helper()
	p, q := made(t, n), newPlain(n)
	for i := range n {
		if got := take(t, p, q, sudog(i)); got != i {
			t.Fatalf("of %d: Take %d is %d", n, i, got)
		}
	}
	return p, q
}

// same fails, unless all that p tells is as q has it.
func same(t *testing.T, p *pool.Pool, q *plain) {
	t.Helper()
	if p.Len() != len(q.has) || p.Free() != len(q.free) {
		t.Fatalf("of %d: Len is %d, Free is %d, not %d, %d", q.n, p.Len(), p.Free(), len(q.has), len(q.free))
	}
	if l := p.List(); !slices.Equal(l, q.list()) {
		t.Fatalf("of %d: List is %d, not %d", q.n, l, q.list())
	}
	for i := -1; i <= q.n; i++ {
		want, wantIs := q.has[i]
		if x, is := p.Of(i); x != want || is != wantIs {
			t.Fatalf("of %d: Of(%d) is %v, %v, not %v, %v", q.n, i, x, is, want, wantIs)
		}
	}
}

// sameFree fails, unless p's free list is q's: it is told by a copy that takes all.
func sameFree(t *testing.T, p *pool.Pool, q *plain) {
	t.Helper()
	c, d := p.Copy(), q.copied()
	for k := range len(q.free) + 1 {
		take(t, c, d, sudog(k))
	}
}

func TestP61New(t *testing.T) {
	for n := 1; n <= api.MaxPool; n++ {
		p := made(t, n)
		if p.Len() != 0 || p.Free() != n || len(p.List()) != 0 {
			t.Errorf("New(%d): Len is %d, Free is %d, List is %d", n, p.Len(), p.Free(), p.List())
		}
	}
	for _, n := range sizes() {
		p, q := made(t, n), newPlain(n)
		same(t, p, q)
		sameFree(t, p, q)
	}
}

func TestP61NewWrong(t *testing.T) {
	for _, n := range []int{0, -1, -2, -1024, 1025, 1026, 2048, 1 << 16, 1<<32 + 1, -1<<32 + 1, math.MaxInt, math.MinInt, math.MinInt + 1} {
		if p, e := pool.New(n); p != nil || e != api.ErrArg {
			t.Errorf("New(%d) is %v, %v", n, p, e)
		}
	}
}

func TestP61Example(t *testing.T) {
	p := made(t, 3)
	takes := func(want int, wantErr api.Errno) {
		t.Helper()
		if i, e := p.Take(api.Sudog{Task: 7}); i != want || e != wantErr {
			t.Errorf("Take is %d, %v, not %d, %v", i, e, want, wantErr)
		}
	}
	gives := func(i int, want api.Errno) {
		t.Helper()
		if e := p.Give(i); e != want {
			t.Errorf("Give(%d) is %v, not %v", i, e, want)
		}
	}
	takes(0, api.OK)
	takes(1, api.OK)
	gives(0, api.OK)
	takes(0, api.OK)
	takes(2, api.OK)
	takes(0, api.ErrFull)
	gives(1, api.OK)
	gives(1, api.ErrNone)
}

// TestP61TakeRising: of a pool that is new each slot is taken in turn, and then none.
func TestP61TakeRising(t *testing.T) {
	for _, n := range sizes() {
		p, q := full(t, n)
		same(t, p, q)
		for range 3 {
			if i, e := p.Take(sudog(n)); i != 0 || e != api.ErrFull {
				t.Errorf("of %d: Take of none is %d, %v", n, i, e)
			}
		}
		same(t, p, q)
	}
}

// TestP61GiveAll: whichever way all are given back, they are taken the other way round.
func TestP61GiveAll(t *testing.T) {
	for _, n := range sizes() {
		for way := range 3 {
			p, q := full(t, n)
			row := q.list()
			switch way {
			case 1:
				slices.Reverse(row)
			case 2:
				slices.SortFunc(row, func(a, b int) int { return int(sample.Mix(a)%1000) - int(sample.Mix(b)%1000) })
			}
			for _, i := range row {
				give(t, p, q, i)
			}
			same(t, p, q)
			slices.Reverse(row)
			for k, i := range row {
				if got := take(t, p, q, sudog(k+n)); got != i {
					t.Fatalf("of %d: Take %d is %d, not %d", n, k, got, i)
				}
			}
			same(t, p, q)
		}
	}
}

// TestP61GiveTwice: a slot that is free can't be given, be it that it was never taken or was given back.
func TestP61GiveTwice(t *testing.T) {
	for _, n := range sizes() {
		p, q := made(t, n), newPlain(n)
		for _, i := range []int{0, n / 2, n - 1} {
			if e := p.Give(i); e != api.ErrNone {
				t.Errorf("of %d, new: Give(%d) is %v", n, i, e)
			}
		}
		same(t, p, q)
		sameFree(t, p, q)
		p, q = full(t, n)
		for _, i := range []int{n - 1, 0} {
			give(t, p, q, i)
			for range 2 {
				if e := p.Give(i); e != api.ErrNone {
					t.Errorf("of %d: Give(%d) again is %v", n, i, e)
				}
			}
			same(t, p, q)
			sameFree(t, p, q)
		}
	}
}

// TestP61GiveNotThere: slots that are not there, on either side, can't be given, and nothing is changed by that.
func TestP61GiveNotThere(t *testing.T) {
	for _, n := range sizes() {
		for _, taken := range []int{0, 1, n - 1, n} {
			p, q := made(t, n), newPlain(n)
			for k := range taken {
				take(t, p, q, sudog(k))
			}
			for _, i := range outside(n) {
				if i >= 0 && i < n {
					continue
				}
				if e := p.Give(i); e != api.ErrNone {
					t.Errorf("of %d: Give(%d) is %v", n, i, e)
				}
			}
			same(t, p, q)
			sameFree(t, p, q)
		}
	}
}

func TestP61Nil(t *testing.T) {
	var p *pool.Pool
	for _, x := range odd() {
		if i, e := p.Take(x); i != 0 || e != api.ErrNil {
			t.Errorf("Take is %d, %v", i, e)
		}
	}
	for _, i := range append(outside(1), 0) {
		if e := p.Give(i); e != api.ErrNil {
			t.Errorf("Give(%d) is %v", i, e)
		}
	}
}

func TestP62Nil(t *testing.T) {
	var p *pool.Pool
	for _, i := range append(outside(1), 0) {
		if x, is := p.Of(i); x != (api.Sudog{}) || is {
			t.Errorf("Of(%d) is %v, %v", i, x, is)
		}
	}
	if p.Len() != 0 || p.Free() != 0 || len(p.List()) != 0 || p.Copy() != nil {
		t.Error(p.Len(), p.Free(), p.List(), p.Copy())
	}
}

// TestP62Of: each field is had, whatever it is; one that is all zero is told apart from none by the bool alone.
func TestP62Of(t *testing.T) {
	all := odd()
	p, q := made(t, len(all)+1), newPlain(len(all)+1)
	for i, x := range all {
		if got := take(t, p, q, x); got != i {
			t.Fatalf("Take %d is %d", i, got)
		}
	}
	for range 2 { // it stays, however often it is asked
		for i, x := range all {
			if got, is := p.Of(i); got != x || !is {
				t.Errorf("Of(%d) is %v, %v, not %v", i, got, is, x)
			}
		}
	}
	if x, is := p.Of(len(all)); x != (api.Sudog{}) || is {
		t.Errorf("Of a free one is %v, %v", x, is)
	}
	same(t, p, q)
}

// TestP62OfGivenBack: nothing is told of what a slot had ahead of being given back; when it is taken again, it has the new one alone.
func TestP62OfGivenBack(t *testing.T) {
	for _, n := range sizes() {
		for _, i := range []int{0, n / 2, n - 1} {
			for _, x := range odd() {
				p, q := full(t, n)
				give(t, p, q, i)
				if got, is := p.Of(i); got != (api.Sudog{}) || is {
					t.Fatalf("of %d: Of(%d) given back is %v, %v", n, i, got, is)
				}
				if got := take(t, p, q, x); got != i {
					t.Fatalf("of %d: Take is %d, not %d", n, got, i)
				}
				if got, is := p.Of(i); got != x || !is {
					t.Fatalf("of %d: Of(%d) is %v, %v, not %v", n, i, got, is, x)
				}
			}
		}
	}
}

func TestP62OfNotThere(t *testing.T) {
	for _, n := range sizes() {
		p, _ := full(t, n)
		for _, i := range outside(n) {
			if i >= 0 && i < n {
				continue
			}
			if x, is := p.Of(i); x != (api.Sudog{}) || is {
				t.Errorf("of %d: Of(%d) is %v, %v", n, i, x, is)
			}
		}
	}
}

// TestP62Counts: Len, Free and List from none taken to all, and from all back to none.
func TestP62Counts(t *testing.T) {
	for _, n := range sizes() {
		p := made(t, n)
		counts := func(taken int) {
			t.Helper()
			if p.Len() != taken || p.Free() != n-taken || len(p.List()) != taken {
				t.Fatalf("of %d, %d taken: Len is %d, Free is %d, List has %d", n, taken, p.Len(), p.Free(), len(p.List()))
			}
		}
		counts(0)
		for k := range n {
			p.Take(api.Sudog{})
			counts(k + 1)
		}
		p.Take(api.Sudog{})
		counts(n)
		for k := range n {
			p.Give(k)
			counts(n - k - 1)
			p.Give(k)
			counts(n - k - 1)
		}
		p.Give(0)
		counts(0)
	}
}

// TestP62ListEach: the list of each set of taken ones of up to 6 slots, whichever way it came to be.
func TestP62ListEach(t *testing.T) {
	for n := 1; n <= 6; n++ {
		for bits := range 1 << n {
			for _, up := range []bool{true, false} {
				p, q := full(t, n)
				for k := range n {
					i := k
					if !up {
						i = n - 1 - k
					}
					if bits>>i&1 == 0 {
						give(t, p, q, i)
					}
				}
				same(t, p, q)
				sameFree(t, p, q)
			}
		}
	}
}

// TestP62ListIsNew: an answered list is its asker's: what is done to it changes neither the pool nor another list, nor the other way round.
func TestP62ListIsNew(t *testing.T) {
	for _, n := range sizes() {
		p, q := full(t, n)
		one, other := p.List(), p.List()
		for i := range one {
			one[i] = -7
		}
		one = append(one[:0], 5, 5, 5)
		same(t, p, q)
		if !slices.Equal(other, q.list()) {
			t.Errorf("of %d: a list is changed by another one: %d", n, other)
		}
		before := q.list()
		give(t, p, q, n-1)
		give(t, p, q, 0)
		if !slices.Equal(other, before) {
			t.Errorf("of %d: a list is changed by what is done to the pool: %d", n, other)
		}
		same(t, p, q)
	}
}

// TestP62Copy: a copy is the same, its free list too, and both go on apart.
func TestP62Copy(t *testing.T) {
	for _, n := range sizes() {
		p, q := full(t, n)
		for k := range n / 2 {
			give(t, p, q, int(sample.Mix(k)%uint64(n)))
		}
		c, d := p.Copy(), q.copied()
		if c == p {
			t.Fatal("a copy is the pool itself")
		}
		same(t, c, d)
		sameFree(t, c, d)
		for k := range 20 { // the pool goes on, the copy stays
			churn(t, p, q, k)
		}
		same(t, p, q)
		same(t, c, d)
		sameFree(t, c, d)
		for k := range 20 { // and the other way round
			churn(t, c, d, k+50)
		}
		same(t, c, d)
		same(t, p, q)
		sameFree(t, p, q)
		same(t, c.Copy().Copy(), d)
	}
}

// TestP62CopyOfEnds: copies of a pool that has all free, and of one that has none free.
func TestP62CopyOfEnds(t *testing.T) {
	for _, n := range sizes() {
		p, q := made(t, n), newPlain(n)
		c, d := p.Copy(), q.copied()
		take(t, c, d, sudog(1))
		same(t, p, q)
		same(t, c, d)
		p, q = full(t, n)
		c, d = p.Copy(), q.copied()
		give(t, p, q, 0)
		take(t, c, d, sudog(n)) // none is free there
		same(t, p, q)
		same(t, c, d)
		take(t, p, q, sudog(n+1))
		same(t, c, d)
	}
}

// churn does a step to both, which hangs on k.
func churn(t *testing.T, p *pool.Pool, q *plain, k int) {
	t.Helper()
	luck := sample.Mix(k*1000 + q.n)
	if luck%5 < 3 {
		take(t, p, q, sudog(k))
		return
	}
	give(t, p, q, int(luck>>8%uint64(q.n+2))-1)
}

// TestP63AllShort holds pools against a plain one, over all rows of 7 steps: a Take, or a Give of one that is there or just is not.
func TestP63AllShort(t *testing.T) {
	const long = 7
	for n := 1; n <= 3; n++ {
		kinds, rows := n+3, 1
		for range long {
			rows *= kinds
		}
		for row := range rows {
			p, q := made(t, n), newPlain(n)
			for k, left := 0, row; k < long; k, left = k+1, left/kinds {
				if do := left % kinds; do == 0 {
					take(t, p, q, sudog(row+k))
				} else {
					give(t, p, q, do-2)
				}
			}
			same(t, p, q)
			sameFree(t, p, q)
		}
	}
}

// TestP63LongRows holds pools against a plain one over many steps, of which now more are Takes, now more Gives.
func TestP63LongRows(t *testing.T) {
	for _, n := range []int{1, 2, 5, 64, 1024} {
		p, q := made(t, n), newPlain(n)
		for k := range 6000 {
			luck := sample.Mix(n*100000 + k)
			more := uint64(2 + k/1500%2*3) // 2 or 5 of 8
			if luck%8 < more {
				take(t, p, q, sudog(k))
			} else {
				give(t, p, q, int(luck>>8%uint64(n+2))-1)
			}
			if n < 100 || k%100 == 0 {
				same(t, p, q)
			}
		}
		same(t, p, q)
		sameFree(t, p, q)
	}
}

// TestP63NotTwice: who takes has a slot that nobody has, and what it has stays, whatever others take and give, till it is given back.
func TestP63NotTwice(t *testing.T) {
	for _, n := range []int{2, 3, 10, 1024} {
		p := made(t, n)
		kept := map[int]api.Sudog{}
		for k := range 5000 {
			luck := sample.Mix(n*7 + k)
			if i := int(luck >> 8 % uint64(n)); luck%2 == 0 {
				_, is := kept[i]
				if e := p.Give(i); (e == api.OK) != is {
					t.Fatalf("of %d: Give(%d) is %v", n, i, e)
				}
				delete(kept, i)
			} else if i, e := p.Take(sudog(k)); e == api.OK {
				if _, is := kept[i]; is || i < 0 || i >= n {
					t.Fatalf("of %d: Take is %d, which is taken, or is not there", n, i)
				}
				kept[i] = sudog(k)
			} else if len(kept) != n || e != api.ErrFull {
				t.Fatalf("of %d, %d taken: Take is %v", n, len(kept), e)
			}
			if k%50 == 0 {
				for i, x := range kept {
					if got, is := p.Of(i); got != x || !is {
						t.Fatalf("of %d: Of(%d) is %v, %v, not %v", n, i, got, is, x)
					}
				}
			}
		}
	}
}

// TestP63LastGivenFirst: whichever slot is given back, it is the next one that is taken, be others free or not.
func TestP63LastGivenFirst(t *testing.T) {
	for _, n := range sizes() {
		p, q := full(t, n)
		for k := range n {
			i := int(sample.Mix(k) % uint64(n))
			if _, is := q.has[i]; !is {
				continue
			}
			give(t, p, q, i)
			if got := take(t, p, q, sudog(k)); got != i {
				t.Fatalf("of %d: Take behind Give(%d) is %d", n, i, got)
			}
			give(t, p, q, i)
		}
		same(t, p, q)
		sameFree(t, p, q)
	}
}
