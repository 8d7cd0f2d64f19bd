package locks_test

import (
	"math"
	"slices"
	"testing"

	"tollbar/api"
	"tollbar/locks"
	"tollbar/sample"
)

const all = api.Set(math.MaxUint64) // the set of all 64

const most = 64 // cases of a site, at most; its channels are below that

// plainChans are the channels that cases of those sites name, as the chapter's words tell it: each number that one of them names, once, put in at its place.
func plainChans(sites ...api.Site) (l []int) {
	for _, x := range sites {
		for _, c := range x.Cases {
			at, there := slices.BinarySearch(l, c.Ch)
			if c.Ch != api.NoChan && !there {
				l = slices.Insert(l, at, c.Ch)
			}
		}
	}
	return l
}

// plainCover are the numbers of the cases of that channel, or of those of none.
func plainCover(x api.Site, ch int) (l []int) {
	for k := range x.Cases {
		if x.Cases[k].Ch == ch {
			l = append(l, k)
		}
	}
	return l
}

// has tells whether s has k; no set has a number that is not from 0 to 63.
func has(s api.Set, k int) bool { return k >= 0 && k < 64 && s>>uint(k)&1 == 1 }

// plainReady tells whether the case c is ready.
func plainReady(c api.Case, send, recv api.Set) bool {
	return c.Send && has(send, c.Ch) || !c.Send && has(recv, c.Ch)
}

// sets are pairs of sets, of what can be sent on, and received on: of none, all, each other's rest, and some.
func sets() (l [][2]api.Set) {
	for _, s := range []api.Set{0, 1, 2, 3, 5, 34, 1 << 63, 1<<63 | 1, all &^ 1, all >> 1, all} {
		l = append(l, [2]api.Set{s, 0}, [2]api.Set{0, s}, [2]api.Set{s, all}, [2]api.Set{all, s}, [2]api.Set{s, ^s}, [2]api.Set{s, s})
	}
	for k := range 6 {
		l = append(l, [2]api.Set{api.Set(sample.Mix(2 * k)), api.Set(sample.Mix(2*k + 1))})
	}
	return l
}

// strange are numbers of channels that no site has; the low bits of some are those of channels.
func strange() []int {
	return []int{-2, -3, -63, -64, -65, -128, 64, 65, 126, 127, 128, 255, 256, 1 << 16, 1 << 31, 1<<32 - 1, 1 << 32, 1<<32 + 1, -1 << 32, -1<<32 + 1,
		1 << 62, math.MaxInt, math.MaxInt - 1, math.MinInt, math.MinInt + 1}
}

// asWords fails, unless each call tells of x what the chapter's words do, and leaves x as it is.
func asWords(t *testing.T, x api.Site) {
	t.Helper()
	was := slices.Clone(x.Cases)
	chans := plainChans(x)
	if l := locks.Of(x); !slices.Equal(l, chans) {
		t.Fatalf("%+v: Of is %v, not %v", x, l, chans)
	}
	for _, ch := range append(chans, api.NoChan, 0, 1, 62, 63, 64, -2) {
		if l, want := locks.Cover(x, ch), plainCover(x, ch); !slices.Equal(l, want) {
			t.Fatalf("%+v: Cover(%d) is %v, not %v", x, ch, l, want)
		}
	}
	none := locks.Nil(x)
	for k := range most {
		if want := k < len(x.Cases) && x.Cases[k].Ch == api.NoChan; has(none, k) != want {
			t.Fatalf("%+v: Nil is %b", x, none)
		}
	}
	for _, s := range sets() {
		ready := locks.Ready(x, s[0], s[1])
		for k := range most {
			if want := k < len(x.Cases) && plainReady(x.Cases[k], s[0], s[1]); has(ready, k) != want {
				t.Fatalf("%+v: Ready(%b, %b) is %b", x, s[0], s[1], ready)
			}
		}
	}
	if !slices.Equal(x.Cases, was) {
		t.Fatalf("%+v was %+v", x.Cases, was)
	}
}

// ofAll fails, unless Least and Order tell of those sites what the chapter's words do, and leave them as they are.
func ofAll(t *testing.T, sites ...api.Site) {
	t.Helper()
	var was []api.Site
	for _, x := range sites {
		was = append(was, api.Site{Cases: slices.Clone(x.Cases), Default: x.Default})
	}
	chans := plainChans(sites...)
	if l := locks.Order(sites...); !slices.Equal(l, chans) {
		t.Fatalf("%+v: Order is %v, not %v", sites, l, chans)
	}
	want, there := 0, len(chans) > 0
	if there {
		want = chans[0]
	}
	if ch, is := locks.Least(sites...); ch != want || is != there {
		t.Fatalf("%+v: Least is %d, %v, not %d, %v", sites, ch, is, want, there)
	}
	for k, x := range sites {
		if !slices.Equal(x.Cases, was[k].Cases) || x.Default != was[k].Default {
			t.Fatalf("%+v were %+v", sites, was)
		}
	}
}

// on answers a site whose cases are of these channels, those at even places to receive, the others to send.
func on(chans ...int) (x api.Site) {
	for k, ch := range chans {
		x.Cases = append(x.Cases, api.Case{Send: k%2 == 1, Ch: ch})
	}
	return x
}

// short are all sites of up to so many cases of these channels, either direction each.
func short(cases int, chans ...int) (l []api.Site) {
	l = []api.Site{{}}
	ahead := l
	for range cases {
		var longer []api.Site
		for _, x := range ahead {
			for _, ch := range chans {
				for _, send := range []bool{false, true} {
					longer = append(longer, api.Site{Cases: append(slices.Clone(x.Cases), api.Case{Send: send, Ch: ch})})
				}
			}
		}
		l, ahead = append(l, longer...), longer
	}
	return l
}

// made answers a site of cases that n alone tells, of channels in some range and of none.
func made(n int) (x api.Site) {
	m := sample.Mix(n)
	from, wide := int(m%64), 1+int(m>>8%64)
	for k := range int(m >> 16 % 65) {
		c := sample.Mix(n<<16 + k)
		one := api.Case{Send: c&1 == 1, Ch: (from + int(c>>8%uint64(wide))) % 64, Val: int(c >> 20 % 8)}
		if c>>30%8 == 0 {
			one.Ch = api.NoChan
		}
		x.Cases = append(x.Cases, one)
	}
	return x
}

// each does something to each of many sites that may be.
func each(do func(x api.Site)) {
	for _, x := range short(3, api.NoChan, 0, 1, 5, 63) {
		do(x)
	}
	for n := range 400 {
		do(made(n))
		for _, x := range sample.Made(n).Sites {
			do(x)
		}
	}
}

func TestExample(t *testing.T) {
	x := sample.Site(sample.Receives(3, 0, 0), sample.Sends(1, 0), sample.Receives(3, 0, 0), sample.Sends(api.NoChan, 0))
	if l := locks.Of(x); !slices.Equal(l, []int{1, 3}) {
		t.Error(l)
	}
	if l := locks.Cover(x, 3); !slices.Equal(l, []int{0, 2}) {
		t.Error(l)
	}
	if s := locks.Ready(x, 1<<1, 1<<3); s != 1|1<<1|1<<2 {
		t.Error(s)
	}
	if s := locks.Nil(x); s != 1<<3 {
		t.Error(s)
	}
}

// TestP261Sites: of each site its channels, the cases of each, and those of none, are what the words say.
func TestP261Sites(t *testing.T) {
	each(func(x api.Site) { asWords(t, x) })
}

// TestP261Of: what is named comes once, rising, in whatever order it is named, and however often.
func TestP261Of(t *testing.T) {
	for _, x := range []struct{ named, want []int }{
		{nil, nil},
		{[]int{-1}, nil},
		{[]int{-1, -1, -1}, nil},
		{[]int{0}, []int{0}},
		{[]int{63}, []int{63}},
		{[]int{5, 5, 5, 5}, []int{5}},
		{[]int{2, 1, 0}, []int{0, 1, 2}},
		{[]int{63, -1, 0, -1, 63}, []int{0, 63}},
		{[]int{10, 9, 2, 33, 3, 22}, []int{2, 3, 9, 10, 22, 33}}, // by number, not by figures
		{[]int{-1, 4}, []int{4}},
		{[]int{4, -1}, []int{4}},
	} {
		if l := locks.Of(on(x.named...)); !slices.Equal(l, x.want) {
			t.Errorf("Of %v: %v, not %v", x.named, l, x.want)
		}
		ofAll(t, on(x.named...))
	}
}

// TestP261Cover: the cases of a channel stand in order; of one that no case names there are none.
func TestP261Cover(t *testing.T) {
	x := on(7, -1, 0, 7, 63, -1, 7, 0)
	for ch, want := range map[int][]int{7: {0, 3, 6}, 0: {2, 7}, 63: {4}, api.NoChan: {1, 5}, 1: nil, 6: nil, 8: nil, 62: nil} {
		if l := locks.Cover(x, ch); !slices.Equal(l, want) {
			t.Errorf("Cover(%d) is %v, not %v", ch, l, want)
		}
	}
	for _, ch := range strange() {
		if l := locks.Cover(x, ch); len(l) != 0 {
			t.Errorf("Cover(%d) is %v", ch, l)
		}
	}
	if s := locks.Nil(x); s != 1<<1|1<<5 {
		t.Error(s)
	}
}

// TestP261Limits: as many cases as may be, on one channel, on all, on none.
func TestP261Limits(t *testing.T) {
	var rising, falling, mixed []int
	for k := range most {
		rising, falling, mixed = append(rising, k), append(falling, most-1-k), append(mixed, k*29%most)
	}
	for _, chans := range [][]int{rising, falling, mixed} {
		x := on(chans...)
		asWords(t, x)
		if l := locks.Of(x); !slices.Equal(l, rising) {
			t.Error(l)
		}
		for k, ch := range chans {
			if l := locks.Cover(x, ch); !slices.Equal(l, []int{k}) {
				t.Error(ch, l)
			}
		}
	}
	for ch := range most {
		x := on(slices.Repeat([]int{ch}, most)...)
		asWords(t, x)
		if l := locks.Cover(x, ch); !slices.Equal(l, rising) {
			t.Error(ch, l)
		}
		if s := locks.Ready(x, 1<<ch, 1<<ch); s != all {
			t.Error(ch, s)
		}
	}
	x := on(slices.Repeat([]int{api.NoChan}, most)...)
	asWords(t, x)
	if l, s := locks.Of(x), locks.Nil(x); len(l) != 0 || s != all {
		t.Error(l, s)
	}
}

// TestP261Fields: neither registers nor a default, nor which way a case goes, tell which channels there are.
func TestP261Fields(t *testing.T) {
	each(func(x api.Site) {
		other := api.Site{Default: !x.Default}
		turned := api.Site{Default: x.Default}
		for k, c := range x.Cases {
			other.Cases = append(other.Cases, api.Case{Send: c.Send, Ch: c.Ch, Val: k - 9, Ok: 3 * k})
			turned.Cases = append(turned.Cases, api.Case{Send: !c.Send, Ch: c.Ch})
		}
		for _, y := range []api.Site{other, turned} {
			if !slices.Equal(locks.Of(x), locks.Of(y)) || locks.Nil(x) != locks.Nil(y) {
				t.Fatalf("%+v, %+v: %v, %v", x, y, locks.Of(x), locks.Of(y))
			}
			for _, ch := range append(locks.Of(x), api.NoChan) {
				if a, b := locks.Cover(x, ch), locks.Cover(y, ch); !slices.Equal(a, b) {
					t.Fatalf("%+v, %+v: Cover(%d) is %v, %v", x, y, ch, a, b)
				}
			}
		}
		for _, s := range sets() {
			ready := locks.Ready(x, s[0], s[1])
			if a, b := locks.Ready(other, s[0], s[1]), locks.Ready(turned, s[1], s[0]); a != ready || b != ready {
				t.Fatalf("%+v: Ready is %b, %b, %b", x, ready, a, b)
			}
		}
	})
}

// TestP261Nothing: a site without cases, or with a default alone, has nothing.
func TestP261Nothing(t *testing.T) {
	for _, x := range []api.Site{{}, {Default: true}, {Cases: []api.Case{}}} {
		asWords(t, x)
		ofAll(t, x)
		if len(locks.Of(x)) != 0 || len(locks.Cover(x, 0)) != 0 || len(locks.Cover(x, api.NoChan)) != 0 || locks.Nil(x) != 0 || locks.Ready(x, all, all) != 0 {
			t.Errorf("%+v", x)
		}
	}
}

// TestP262Ready: who sends is asked of the first set, who receives of the second one, each of its own channel.
func TestP262Ready(t *testing.T) {
	for ch := range most {
		x := sample.Site(sample.Sends(ch, 1), sample.Receives(ch, 1, 2), sample.Sends((ch+1)%most, 0), sample.Receives((ch+1)%most, 0, 0))
		one := api.Set(1) << ch
		for _, y := range []struct{ send, recv, want api.Set }{
			{0, 0, 0},
			{one, 0, 1},
			{0, one, 2},
			{one, one, 3},
			{all &^ one, 0, 4},
			{0, all &^ one, 8},
			{all &^ one, one, 6},
			{one, all &^ one, 9},
			{all, all, 15},
		} {
			if s := locks.Ready(x, y.send, y.recv); s != y.want {
				t.Errorf("channel %d: Ready(%b, %b) is %b, not %b", ch, y.send, y.recv, s, y.want)
			}
		}
	}
}

// TestP262NoChan: a case that has no channel is never ready.
func TestP262NoChan(t *testing.T) {
	x := sample.Site(sample.Sends(api.NoChan, 0), sample.Receives(api.NoChan, 0, 0), sample.Sends(63, 0), sample.Receives(0, 0, 0))
	if s := locks.Ready(x, all, all); s != 12 {
		t.Error(s)
	}
	each(func(x api.Site) {
		if s := locks.Ready(x, all, all) & locks.Nil(x); s != 0 {
			t.Fatalf("%+v: %b", x, s)
		}
	})
}

// TestP263None: where no case has a channel there is no least one, unlike where that is 0.
func TestP263None(t *testing.T) {
	for _, sites := range [][]api.Site{nil, {}, {{}}, {{}, {Default: true}}, {on(-1)}, {on(-1, -1), {}, on(-1)}} {
		ofAll(t, sites...)
		if ch, is := locks.Least(sites...); ch != 0 || is {
			t.Error(sites, ch, is)
		}
		if l := locks.Order(sites...); len(l) != 0 {
			t.Error(sites, l)
		}
		sites = append(slices.Clone(sites), on(-1, 0, -1))
		ofAll(t, sites...)
		if ch, is := locks.Least(sites...); ch != 0 || !is {
			t.Error(sites, ch, is)
		}
	}
}

// TestP263Written: the least one may stand in any site, at any place; what several name comes once.
func TestP263Written(t *testing.T) {
	for _, x := range []struct {
		sites []api.Site
		want  []int
	}{
		{[]api.Site{on(3, 1), on(2)}, []int{1, 2, 3}},
		{[]api.Site{on(3, 2), on(9, 1)}, []int{1, 2, 3, 9}},
		{[]api.Site{on(3, 2), on(2, 3), on(3)}, []int{2, 3}},
		{[]api.Site{on(63), on(-1), {}, on(62)}, []int{62, 63}},
		{[]api.Site{{}, on(-1, 40), on(40, -1)}, []int{40}},
		{[]api.Site{on(5, 63, 0), on(10, 9)}, []int{0, 5, 9, 10, 63}},
	} {
		if l := locks.Order(x.sites...); !slices.Equal(l, x.want) {
			t.Errorf("%+v: %v, not %v", x.sites, l, x.want)
		}
		if ch, is := locks.Least(x.sites...); ch != x.want[0] || !is {
			t.Errorf("%+v: %d, %v", x.sites, ch, is)
		}
		ofAll(t, x.sites...)
	}
}

// TestP263Rows: all pairs of short sites, and rows of longer ones, of all numbers up to many.
func TestP263Rows(t *testing.T) {
	l := short(2, api.NoChan, 0, 2, 63)
	for _, x := range l {
		ofAll(t, x)
		for _, y := range l {
			ofAll(t, x, y)
		}
	}
	for n := range 300 {
		var sites []api.Site
		for k := range n % 40 {
			sites = append(sites, made(n*50+k))
		}
		ofAll(t, sites...)
		ofAll(t, sample.Made(n).Sites...)
	}
}

// TestP264CasesOfOne: each case that has a channel is one of just that channel's, each other one of none's; the channels rise.
func TestP264CasesOfOne(t *testing.T) {
	each(func(x api.Site) {
		times := make([]int, len(x.Cases))
		chans := locks.Of(x)
		for n, ch := range chans {
			if n > 0 && chans[n-1] >= ch || ch == api.NoChan {
				t.Fatalf("%+v: %v", x, chans)
			}
			l := locks.Cover(x, ch)
			if len(l) == 0 || !slices.IsSorted(l) {
				t.Fatalf("%+v: Cover(%d) is %v", x, ch, l)
			}
			for _, k := range l {
				times[k]++
			}
		}
		for _, k := range locks.Cover(x, api.NoChan) {
			times[k]++
			if !has(locks.Nil(x), k) || x.Cases[k].Ch != api.NoChan {
				t.Fatalf("%+v: %d", x, k)
			}
		}
		for k, n := range times {
			if n != 1 {
				t.Fatalf("%+v: the case %d is %d times one of a channel's", x, k, n)
			}
		}
	})
}

// TestP264Many: the channels of many are those of each, whichever comes first, and however often.
func TestP264Many(t *testing.T) {
	for n := range 200 {
		var sites []api.Site
		var chans []int
		for k := range 1 + n%9 {
			x := made(7000 + n*10 + k)
			sites, chans = append(sites, x), append(chans, locks.Of(x)...)
		}
		slices.Sort(chans)
		chans = slices.Compact(chans)
		turned := slices.Clone(sites)
		slices.Reverse(turned)
		for _, l := range [][]api.Site{sites, turned, append(slices.Clone(sites), turned...)} {
			if got := locks.Order(l...); !slices.Equal(got, chans) {
				t.Fatalf("%+v: %v, not %v", l, got, chans)
			}
			ch, is := locks.Least(l...)
			if is != (len(chans) > 0) || is && ch != chans[0] {
				t.Fatalf("%+v: %d, %v", l, ch, is)
			}
		}
	}
}

// TestP264ReadyGrows: with one channel more, of either set, nobody is ready no more.
func TestP264ReadyGrows(t *testing.T) {
	for n := range 100 {
		x := made(9000 + n)
		send, recv := api.Set(sample.Mix(n)&sample.Mix(n+500)), api.Set(sample.Mix(-n)&sample.Mix(-n-500))
		ready := locks.Ready(x, send, recv)
		for ch := range most {
			more := locks.Ready(x, send|1<<ch, recv) & locks.Ready(x, send, recv|1<<ch) & locks.Ready(x, send|1<<ch, recv|1<<ch)
			if ready&^more != 0 {
				t.Fatalf("%+v: with %d: %b, not %b", x, ch, more, ready)
			}
		}
		if last := locks.Ready(x, all, all); ready&^last != 0 || last|locks.Nil(x) != all>>(64-len(x.Cases)) {
			t.Fatalf("%+v: %b, %b", x, ready, last)
		}
	}
}

// TestNewMemory: what is done to a list that was answered changes neither the site, nor what is answered next.
func TestNewMemory(t *testing.T) {
	x, y := on(5, -1, 2, 5), on(2, 9)
	lists := func() [][]int {
		return [][]int{locks.Of(x), locks.Cover(x, 5), locks.Cover(x, api.NoChan), locks.Order(x, y), locks.Order(x)}
	}
	first, want := lists(), [][]int{{2, 5}, {0, 3}, {1}, {2, 5, 9}, {2, 5}}
	x.Cases[0].Ch, y.Cases[0].Ch = 40, 41 // what was answered stays as it is, whatever becomes of the sites
	if !slices.EqualFunc(first, want, slices.Equal) {
		t.Fatal(first)
	}
	x.Cases[0].Ch, y.Cases[0].Ch = 5, 2
	for _, l := range first {
		for n := range l {
			l[n] = -70
		}
		_ = append(l[:0], -71, -72, -73)
		if again := lists(); !slices.EqualFunc(again, want, slices.Equal) {
			t.Fatal(again)
		}
	}
}

// TestBeyond: of cases and channels that no site has each call still ends, and tells what the words do; no set has them.
func TestBeyond(t *testing.T) {
	for _, ch := range strange() {
		x := on(ch, ch, 3, -1, 3, ch)
		asWords(t, x)
		ofAll(t, x, on(2))
		if s := locks.Ready(x, all, all); s != 1<<2|1<<4 {
			t.Errorf("channel %d: %b", ch, s)
		}
	}
	asWords(t, on(strange()...))
	for _, cases := range []int{65, 66, 128, 1000} {
		for _, ch := range []int{0, 63, api.NoChan} {
			x := on(slices.Repeat([]int{ch}, cases)...)
			asWords(t, x)
			ofAll(t, x, x)
			want := []api.Set{all, 0}
			if ch == api.NoChan {
				slices.Reverse(want)
			}
			if a, b := locks.Ready(x, all, all), locks.Nil(x); a != want[0] || b != want[1] {
				t.Errorf("%d cases of %d: %b, %b", cases, ch, a, b)
			}
		}
	}
	for _, ends := range [][2]int{{0, api.NoChan}, {63, api.NoChan}, {api.NoChan, 0}} { // what only cases from 64 on are, no set tells of
		x := on(append(slices.Repeat(ends[:1], most), slices.Repeat(ends[1:], 80)...)...)
		asWords(t, x)
		ofAll(t, x)
		ready, none := locks.Ready(x, all, all), locks.Nil(x)
		if ends[0] == api.NoChan && ready != 0 || ends[1] == api.NoChan && none != 0 {
			t.Errorf("%v: %b, %b", ends, ready, none)
		}
	}
}
