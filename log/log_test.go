package log_test

import (
	"math"
	"slices"
	"testing"

	"tollbar/api"
	"tollbar/entry"
	"tollbar/log"
	"tollbar/sample"
)

// naming are the kinds of layer 14, and whether one names a task as Task, and as Peer.
var naming = map[uint8]struct{ task, peer bool }{
	api.CSend:     {true, false},
	api.CRecv:     {true, false},
	api.CMeet:     {true, true},
	api.CRefill:   {true, true},
	api.CClose:    {true, false},
	api.CWake:     {true, true},
	api.CDone:     {true, false},
	api.CBlock:    {true, false},
	api.CSpawn:    {true, true},
	api.CEnd:      {true, false},
	api.CFault:    {true, true},
	api.MDispatch: {true, false},
	api.MReady:    {true, false},
	api.MPreempt:  {true, false},
	api.MLocked:   {true, false},
	api.MPoll:     {true, false},
	api.MFree:     {false, false},
}

// kinds are all that there are, rising.
func kinds() (l []uint8) {
	for k := range 256 {
		if _, is := naming[uint8(k)]; is {
			l = append(l, uint8(k))
		}
	}
	return l
}

// goingOn are all kinds but CFault, behind which nothing is put.
func goingOn() []uint8 {
	return slices.DeleteFunc(kinds(), func(k uint8) bool { return k == api.CFault })
}

// unknown are some numbers that no kind has.
func unknown() []uint8 { return []uint8{0, 12, 13, 20, 27, 28, 64, 65, 127, 128, 254, 255} }

// of is an entry of that kind, at that pick, of those tasks, as far as it names them; luck tells some of its other fields.
func of(kind uint8, at int64, task, peer, luck int) api.Entry {
	x := api.Entry{At: at, Kind: kind}
	if naming[kind].task {
		x.Task = task
	}
	if naming[kind].peer {
		x.Peer = peer
	}
	some := int(sample.Mix(luck) % 5)
	switch kind {
	case api.CSend, api.CRecv, api.CMeet, api.CRefill:
		x.Ch, x.Case, x.Val = some, some-1, int64(some)*1000-1
	case api.CFault:
		x.Code = api.FaultSend + api.Errno(some%4)
	case api.MFree, api.MReady, api.MDispatch:
		x.Worker = some
	case api.MPoll:
		x.Worker, x.Set = some, api.Set(1)<<63+api.Set(some)
	}
	return x
}

// mixed is a row of n entries, none of them a CFault, that luck alone tells; many have one At.
func mixed(n, luck int) (l []api.Entry) {
	at := int64(0)
	for i := range n {
		m := sample.Mix(luck*1000 + i)
		at += int64(max(0, int(m%5)-2))
		ks := goingOn()
		l = append(l, of(ks[m>>8%uint64(len(ks))], at, int(m>>16%4), int(m>>24%4), luck+i))
	}
	return l
}

// each is a row of one entry of each kind, the CFault last, whose At rises by step.
func each(step int64, task, peer int) (l []api.Entry) {
	for i, k := range append(goingOn(), api.CFault) {
		l = append(l, of(k, int64(i)*step, task, peer, i))
	}
	return l
}

// rows are some that may be: none, one of each kind, all kinds, CFaults last, marks alone, commits alone, At alike, and far.
func rows() [][]api.Entry {
	all := [][]api.Entry{nil, each(0, 0, 0), each(1, 0, 0), each(3, 5, 31), each(1, 31, 0), each(7, 2, 2), each(1<<58, 1, 0), mixed(200, 1), mixed(201, 2)}
	for _, k := range kinds() {
		all = append(all, []api.Entry{of(k, 0, 0, 0, 0)}, []api.Entry{of(k, 9, 31, 4, 1)}, []api.Entry{of(k, math.MaxInt64, 3, 3, 2)})
	}
	for n := range 12 {
		l := mixed(n*3, n+3)
		last := int64(0)
		if n > 0 {
			last = l[len(l)-1].At
		}
		all = append(all, l, append(slices.Clone(l), of(api.CFault, last+int64(n%2), n%4, n%4-1, n)))
	}
	marks := slices.DeleteFunc(mixed(60, 90), func(x api.Entry) bool { return x.Kind < api.MarkFrom })
	commits := slices.DeleteFunc(mixed(60, 91), func(x api.Entry) bool { return x.Kind >= api.MarkFrom })
	return append(all, marks, commits, []api.Entry{of(api.MReady, 0, 0, 0, 0), of(api.CFault, 0, 1, -1, 1)})
}

// bad are entries that may not be.
func bad() (l []api.Entry) {
	l = []api.Entry{{}, {At: 7}, {Kind: api.CEnd, At: -1}, {Kind: api.CEnd, At: math.MinInt64}, {Kind: api.CEnd, At: 5, Task: 32}, {Kind: api.CEnd, At: 5, Task: -1}, {Kind: api.CEnd, At: 5, Peer: 1}, {Kind: api.CEnd, At: 5, Peer: -1},
		{Kind: api.CMeet, At: 5, Peer: -1}, {Kind: api.CFault, At: 5}, {Kind: api.CFault, At: 5, Peer: -2, Code: api.FaultNil}, {Kind: api.CFault, At: 5, Code: 144}, {Kind: api.MFree, At: 5, Task: 1}, {Kind: api.MFree, At: 5, Worker: 255},
		{Kind: api.MReady, At: 5, Set: 1}, {Kind: api.CSend, At: 5, Ch: 6}, {Kind: api.CBlock, At: 5, Ok: true}}
	for _, k := range unknown() {
		l = append(l, api.Entry{Kind: k, At: 5}, api.Entry{Kind: k, At: math.MaxInt64})
	}
	return l
}

// plain is a log as the chapter's words tell it.
type plain []api.Entry

// those are the ones of p of which that is so.
func (p plain) those(is func(x api.Entry) bool) (l []api.Entry) {
	for i := range p {
		if is(p[i]) {
			l = append(l, p[i])
		}
	}
	return l
}

func (p plain) commits() []api.Entry {
	return p.those(func(x api.Entry) bool { return x.Kind >= 1 && x.Kind <= 11 })
}

func (p plain) of(task int) []api.Entry {
	return p.those(func(x api.Entry) bool {
		asTask := naming[x.Kind].task && x.Task == task
		asPeer := naming[x.Kind].peer && x.Peer == task && x.Peer >= 0
		return asTask || asPeer
	})
}

func (p plain) kind(ks ...uint8) []api.Entry {
	return p.those(func(x api.Entry) bool { return slices.Contains(ks, x.Kind) })
}

func (p plain) between(from, to int64) []api.Entry {
	return p.those(func(x api.Entry) bool { return from <= x.At && x.At < to })
}

func (p plain) last(ks ...uint8) (int, api.Entry, bool) {
	for i := len(p) - 1; i >= 0; i-- {
		if len(ks) == 0 || slices.Contains(ks, p[i].Kind) {
			return i, p[i], true
		}
	}
	return -1, api.Entry{}, false
}

func (p plain) end() int64 {
	if len(p) == 0 {
		return -1
	}
	return p[len(p)-1].At
}

func (p plain) ended() bool {
	c := p.commits()
	return len(c) > 0 && c[len(c)-1].Kind == 11
}

func (p *plain) put(x api.Entry) api.Errno {
	switch {
	case entry.Check(x) != api.OK || len(*p) > 0 && x.At < (*p)[len(*p)-1].At:
		return api.ErrArg
	case p.ended():
		return api.ErrEnd
	}
	*p = append(slices.Clip(*p), x)
	return api.OK
}

// made answers a log of that row, put one by one, and the plain one.
func made(t *testing.T, row ...api.Entry) (*log.Log, plain) {
	t.Helper()
	l, p := log.New(), plain{}
	for i, x := range row {
		if e := l.Put(x); e != api.OK {
			t.Fatalf("Put of entry %d, %v, is %v", i, x, e)
		}
		p = append(p, x)
	}
	return l, p
}

// put does it to both, and fails unless they answer the same.
func put(t *testing.T, l *log.Log, p *plain, x api.Entry) {
	t.Helper()
	before := *p
	if e, want := l.Put(x), p.put(x); e != want {
		t.Fatalf("of %v: Put(%v) is %v, not %v", before, x, e, want)
	}
}

// groups are rows of kinds to be asked for: none, each alone, some together, in another order, twice, and some that are none.
func groups() [][]uint8 {
	all := [][]uint8{nil, {}, kinds(), goingOn(), unknown(), append(unknown(), kinds()...),
		{api.CSend, api.CRecv}, {api.CRecv, api.CSend}, {api.CEnd, api.CEnd}, {api.MFree, api.CBlock, api.MReady}, {api.CFault, api.MPoll}, {0, api.CBlock}, {api.CBlock, 255}}
	for k := range 256 {
		all = append(all, []uint8{uint8(k)})
	}
	return all
}

// tasks are numbers of tasks, and numbers that no task has; the low bits of some are a task's.
func tasks() []int {
	l := []int{-1, -2, -31, -32, 32, 33, 64, 255, 256, 1 << 16, 1 << 32, 1<<32 + 1, -1 << 32, -1<<32 + 1, math.MaxInt, math.MinInt, math.MinInt + 1}
	for k := range 32 {
		l = append(l, k)
	}
	return l
}

// spans are pairs of numbers of picks, beside those that p has, and far from all.
func spans(p plain) (l [][2]int64) {
	marks := []int64{math.MinInt64, -5, -1, 0, 1, 4, 1 << 40, math.MaxInt64 - 1, math.MaxInt64}
	for _, i := range []int{0, len(p) / 2, len(p) - 1} {
		if len(p) > 0 {
			at := p[i].At
			marks = append(marks, at, at-1)
			if at < math.MaxInt64 {
				marks = append(marks, at+1)
			}
		}
	}
	for _, from := range marks {
		for _, to := range marks {
			l = append(l, [2]int64{from, to})
		}
	}
	return l
}

// same fails, unless all that l tells is as p has it.
func same(t *testing.T, l *log.Log, p plain) {
	t.Helper()
	alike := func(what string, arg any, got, want []api.Entry) {
		t.Helper()
		if !slices.Equal(got, want) {
			t.Fatalf("of %v: %s %v is %v, not %v", p, what, arg, got, want)
		}
	}
	alike("List", "", l.List(), p)
	alike("Commits", "", l.Commits(), p.commits())
	for _, k := range tasks() {
		alike("Of", k, l.Of(k), p.of(k))
	}
	for _, ks := range groups() {
		alike("Kind", ks, l.Kind(ks...), p.kind(ks...))
		at, x, is := l.Last(ks...)
		if wat, wx, wis := p.last(ks...); at != wat || x != wx || is != wis {
			t.Fatalf("of %v: Last(%v) is %d, %v, %v, not %d, %v, %v", p, ks, at, x, is, wat, wx, wis)
		}
	}
	for _, s := range spans(p) {
		alike("Between", s, l.Between(s[0], s[1]), p.between(s[0], s[1]))
	}
	short(t, l, p)
}

// short fails, unless what l tells of its size, its end and its list is as p has it.
func short(t *testing.T, l *log.Log, p plain) {
	t.Helper()
	if !slices.Equal(l.List(), p) || l.Len() != len(p) || l.End() != p.end() || l.Ended() != p.ended() {
		t.Fatalf("of %v: List is %v, Len %d, End %d, Ended %v", p, l.List(), l.Len(), l.End(), l.Ended())
	}
}

// TestOwnWords: the table of these tests is layer 14's: what a kind does not name may be nothing but 0.
func TestOwnWords(t *testing.T) {
	for k := range 256 {
		x := of(uint8(k), 0, 1, 1, 0)
		n, is := naming[uint8(k)]
		if may := entry.Check(x) == api.OK; may != is {
			t.Errorf("%v: may be is %v", x, may)
		}
		if !is {
			continue
		}
		y, z := x, x
		y.Task, z.Peer = 2, 2
		if task, peer := entry.Check(y) == api.OK, entry.Check(z) == api.OK; task != n.task || peer != n.peer {
			t.Errorf("kind %d names a task as Task: %v, as Peer: %v", k, task, peer)
		}
	}
	for _, x := range bad() {
		if entry.Check(x) != api.ErrArg {
			t.Errorf("%v may be", x)
		}
	}
}

func TestP151New(t *testing.T) {
	l, other := log.New(), log.New()
	if l == nil || other == nil || l == other {
		t.Fatal(l, other)
	}
	same(t, l, nil)
	l.Put(of(api.CEnd, 4, 1, 0, 0))
	same(t, other, nil)
	same(t, log.New(), nil)
}

func TestP151Example(t *testing.T) {
	l := log.New()
	block, ready, end := api.Entry{At: 3, Kind: api.CBlock}, api.Entry{At: 3, Kind: api.MReady}, api.Entry{At: 5, Kind: api.CEnd}
	for _, x := range []api.Entry{block, ready, end} {
		if e := l.Put(x); e != api.OK {
			t.Errorf("Put(%v) is %v", x, e)
		}
	}
	if got := l.Commits(); !slices.Equal(got, []api.Entry{block, end}) {
		t.Errorf("Commits is %v", got)
	}
	if got := l.Between(3, 5); !slices.Equal(got, []api.Entry{block, ready}) {
		t.Errorf("Between(3, 5) is %v", got)
	}
	if at, x, is := l.Last(api.CBlock); at != 0 || x != block || !is {
		t.Errorf("Last(CBlock) is %d, %v, %v", at, x, is)
	}
	if e := l.Put(api.Entry{At: 4, Kind: api.CEnd}); e != api.ErrArg {
		t.Errorf("Put of CEnd at 4 is %v", e)
	}
	same(t, l, plain{block, ready, end})
}

// TestP151PutEach: each kind is put into a log of none, at the first pick, at a later one and at the last one that there can be.
func TestP151PutEach(t *testing.T) {
	for _, k := range kinds() {
		for _, at := range []int64{0, 1, 300, math.MaxInt64 - 1, math.MaxInt64} {
			l, p := made(t, of(k, at, 1, 2, int(k)))
			same(t, l, p)
		}
	}
}

// TestP151PutAt: an At may be the last one's, or above it, not below it; be the last one a commit or a mark, and this one either.
func TestP151PutAt(t *testing.T) {
	for _, last := range goingOn() {
		for _, k := range kinds() {
			for _, at := range []int64{0, 1, 2, 7, 1 << 32, math.MaxInt64 - 1, math.MaxInt64} {
				for _, by := range []int64{math.MinInt64 + 1, -1 << 32, -7, -2, -1, 0, 1, 2, 7, 1 << 32, math.MaxInt64} {
					next := at + by
					if by > 0 && next < at {
						continue
					}
					l, p := made(t, of(last, at, 0, 0, 0))
					want := api.OK
					if by < 0 {
						want = api.ErrArg
					} else {
						p = append(p, of(k, next, 0, 0, 0))
					}
					if e := l.Put(of(k, next, 0, 0, 0)); e != want {
						t.Fatalf("behind kind %d at %d Put of kind %d at %d is %v", last, at, k, next, e)
					}
					short(t, l, p)
				}
			}
		}
	}
}

// TestP151PutAtOfTheLast: it is the last one's At that counts, not the first one's, nor the last commit's.
func TestP151PutAtOfTheLast(t *testing.T) {
	l, p := made(t, of(api.CBlock, 3, 0, 0, 0), of(api.MReady, 6, 0, 0, 0))
	for _, at := range []int64{0, 2, 3, 4, 5} {
		for _, k := range kinds() {
			if e := l.Put(of(k, at, 0, 0, 0)); e != api.ErrArg {
				t.Errorf("Put of kind %d at %d is %v", k, at, e)
			}
		}
	}
	same(t, l, p)
	put(t, l, &p, of(api.CEnd, 6, 0, 0, 0))
	same(t, l, p)
}

// TestP151PutWrong: an entry that may not be is put into no log, and changes nothing.
func TestP151PutWrong(t *testing.T) {
	for _, row := range [][]api.Entry{nil, {of(api.CBlock, 5, 0, 0, 0)}, mixed(20, 7), {of(api.CFault, 0, 0, 0, 0)}, {of(api.MFree, 0, 0, 0, 0), of(api.CFault, 5, 1, -1, 3)}} {
		l, p := made(t, row...)
		for _, x := range bad() {
			if e := l.Put(x); e != api.ErrArg {
				t.Errorf("of %v: Put(%v) is %v", row, x, e)
			}
		}
		same(t, l, p)
	}
}

// TestP151PutEnd: behind a CFault, of whichever task, peer and code, nothing is put, neither a commit nor a mark; one that is wrong is told so first.
func TestP151PutEnd(t *testing.T) {
	for _, ahead := range [][]api.Entry{nil, {of(api.CBlock, 4, 0, 0, 0)}, {of(api.MReady, 4, 0, 0, 0)}, {of(api.CSpawn, 1, 0, 1, 0), of(api.MFree, 2, 0, 0, 0)}} {
		for code := api.FaultSend; code <= api.FaultMany; code++ {
			for _, peer := range []int{-1, 0, 31} {
				fault := api.Entry{At: 4, Kind: api.CFault, Task: int(code) % 4, Peer: peer, Code: code}
				l, p := made(t, append(slices.Clone(ahead), fault)...)
				for _, k := range kinds() {
					for _, at := range []int64{0, 3, 4, 5, math.MaxInt64} {
						want := api.ErrEnd
						if at < 4 {
							want = api.ErrArg
						}
						if e := l.Put(of(k, at, 2, 3, 0)); e != want {
							t.Errorf("of %v: Put of kind %d at %d is %v", p, k, at, e)
						}
					}
				}
				short(t, l, p)
			}
		}
	}
}

func TestP151Nil(t *testing.T) {
	var l *log.Log
	for _, x := range slices.Concat(bad(), each(1, 3, 4)) {
		if e := l.Put(x); e != api.ErrNil {
			t.Errorf("Put(%v) is %v", x, e)
		}
	}
	same(t, l, nil)
}

// TestP151From: a log of these, the same as if they are put one by one.
func TestP151From(t *testing.T) {
	for _, row := range rows() {
		l, e := log.From(row...)
		if e != api.OK || l == nil {
			t.Fatalf("From(%v) is %v, %v", row, l, e)
		}
		same(t, l, row)
		one, p := made(t, row...)
		for _, x := range append(each(1, 0, 0), of(api.MReady, math.MaxInt64, 0, 0, 0)) { // and it goes on as that one
			if e, want := l.Put(x), one.Put(x); e != want {
				t.Errorf("of %v: Put(%v) is %v, not %v", row, x, e, want)
			}
			p.put(x)
		}
		same(t, l, p)
	}
}

func TestP151FromNone(t *testing.T) {
	for _, row := range [][]api.Entry{nil, {}, make([]api.Entry, 0, 4)} {
		l, e := log.From(row...)
		if e != api.OK || l == nil {
			t.Fatal(l, e)
		}
		same(t, l, nil)
		if e := l.Put(of(api.CEnd, 0, 0, 0, 0)); e != api.OK || l.Len() != 1 {
			t.Error(e, l.Len())
		}
	}
}

// TestP151FromFirst: of several errors that of the first entry that can't be put, whatever comes behind; and no log.
func TestP151FromFirst(t *testing.T) {
	at := func(k uint8, at int64) api.Entry { return of(k, at, 1, 2, 0) }
	end, fault, low, wrong := at(api.CEnd, 6), at(api.CFault, 6), at(api.CEnd, 5), api.Entry{At: 6, Kind: 12}
	mark := at(api.MFree, 6)
	for k, c := range []struct {
		row  []api.Entry
		want api.Errno
	}{
		{[]api.Entry{wrong}, api.ErrArg},
		{[]api.Entry{{}}, api.ErrArg},
		{[]api.Entry{end, wrong}, api.ErrArg},
		{[]api.Entry{wrong, end}, api.ErrArg},
		{[]api.Entry{end, low}, api.ErrArg},
		{[]api.Entry{end, low, end}, api.ErrArg},
		{[]api.Entry{mark, low}, api.ErrArg},
		{[]api.Entry{fault, end}, api.ErrEnd},
		{[]api.Entry{fault, mark}, api.ErrEnd},
		{[]api.Entry{fault, fault}, api.ErrEnd},
		{[]api.Entry{end, mark, fault, mark}, api.ErrEnd},
		{[]api.Entry{fault, wrong}, api.ErrArg},
		{[]api.Entry{fault, low}, api.ErrArg},
		{[]api.Entry{fault, end, wrong}, api.ErrEnd},
		{[]api.Entry{fault, mark, low}, api.ErrEnd},
		{[]api.Entry{fault, wrong, end}, api.ErrArg},
		{[]api.Entry{wrong, fault, end}, api.ErrArg},
		{[]api.Entry{end, low, fault, end}, api.ErrArg},
		{[]api.Entry{low, end, fault, at(api.CEnd, 7), low}, api.ErrEnd},
	} {
		if l, e := log.From(c.row...); l != nil || e != c.want {
			t.Errorf("%d: From(%v) is %v, %v, not %v", k, c.row, l, e, c.want)
		}
	}
}

// TestP151FromSpoilt holds From against Put, of rows one entry of which is another one.
func TestP151FromSpoilt(t *testing.T) {
	others := slices.Concat(bad()[:8], []api.Entry{of(api.CFault, 0, 0, 0, 0), of(api.CFault, 3, 0, -1, 0), of(api.MFree, 0, 0, 0, 0), of(api.CEnd, math.MaxInt64, 0, 0, 0)})
	for luck := range 20 {
		row := append(mixed(8, luck), of(api.CFault, 20, 0, 0, 0))
		for i := range row {
			for _, x := range others {
				spoilt := slices.Clone(row)
				spoilt[i] = x
				p, want := plain{}, api.OK
				for k := 0; k < len(spoilt) && want == api.OK; k++ {
					want = p.put(spoilt[k])
				}
				l, e := log.From(spoilt...)
				if e != want || (l == nil) != (want != api.OK) {
					t.Fatalf("From(%v) is %v, %v, not %v", spoilt, l, e, want)
				}
				if l != nil {
					short(t, l, p)
				}
			}
		}
	}
}

// TestP151FromKeepsNothing: a list that is handed in stays as it is, and what is written to it later changes no log; nor does what is put write to it.
func TestP151FromKeepsNothing(t *testing.T) {
	row := make([]api.Entry, 0, 100)
	row = append(row, mixed(40, 5)...)
	stood := slices.Clone(row)
	l, _ := log.From(row...)
	other, _ := log.From(row...)
	put(t, l, (*plain)(&stood), of(api.CEnd, 1<<40, 1, 1, 1))
	if whole := row[:100]; !slices.Equal(row, stood[:40]) || whole[40] != (api.Entry{}) {
		t.Error("a list that was handed in is written to")
	}
	for i := range row {
		row[i] = of(api.MFree, 0, 0, 0, i)
	}
	same(t, l, stood)
	same(t, other, stood[:40])
}

// TestP152Told: what is told of each log, and told again.
func TestP152Told(t *testing.T) {
	for _, row := range rows() {
		l, p := made(t, row...)
		same(t, l, p)
		same(t, l, p)
	}
}

func TestP152Nil(t *testing.T) {
	var l *log.Log
	same(t, l, nil)
	if at, x, is := l.Last(); at != -1 || x != (api.Entry{}) || is {
		t.Error(at, x, is)
	}
}

// TestP152Commits: each kind alone is a commit, or none.
func TestP152Commits(t *testing.T) {
	for _, k := range kinds() {
		l, p := made(t, of(k, 2, 0, 0, 0))
		want := []api.Entry(p)
		if k >= api.MarkFrom {
			want = nil
		}
		if got := l.Commits(); !slices.Equal(got, want) {
			t.Errorf("of kind %d Commits is %v", k, got)
		}
	}
}

// TestP152Of: an entry of each kind is its Task's, and its Peer's, as far as it names them, and nobody else's.
func TestP152Of(t *testing.T) {
	for _, k := range kinds() {
		for _, a := range []int{0, 1, 2, 30, 31} {
			for _, b := range []int{-1, 0, 1, 2, 30, 31} {
				if b < 0 && k != api.CFault {
					continue
				}
				x := of(k, 7, a, b, a+b)
				l, _ := made(t, x)
				for _, task := range tasks() {
					var want []api.Entry
					if naming[k].task && task == a || naming[k].peer && task == b && b != -1 {
						want = []api.Entry{x}
					}
					if got := l.Of(task); !slices.Equal(got, want) {
						t.Fatalf("of %v: Of(%d) is %v", x, task, got)
					}
				}
			}
		}
	}
}

// TestP152OfFirst: 0 that is named is told from 0 that is not: an MFree is nobody's, and who has no peer has not the first task as one.
func TestP152OfFirst(t *testing.T) {
	free, send, end := of(api.MFree, 1, 0, 0, 0), of(api.CSend, 2, 3, 0, 0), of(api.CEnd, 3, 0, 0, 0)
	meet, both, alone := of(api.CMeet, 4, 3, 0, 0), of(api.CWake, 5, 0, 0, 0), of(api.CFault, 6, 3, -1, 0)
	l, _ := made(t, free, send, end, meet, both, alone)
	for task, want := range map[int][]api.Entry{0: {end, meet, both}, 3: {send, meet, alone}, -1: nil, 1: nil} {
		if got := l.Of(task); !slices.Equal(got, want) {
			t.Errorf("Of(%d) is %v", task, got)
		}
	}
}

// TestP152Kind: in the log's order, not in that in which the kinds are told, each once, however often its kind is told.
func TestP152Kind(t *testing.T) {
	a, b, c, d := of(api.CSend, 1, 0, 0, 0), of(api.MReady, 1, 1, 0, 0), of(api.CRecv, 2, 2, 0, 0), of(api.CSend, 3, 3, 0, 0)
	l, _ := made(t, a, b, c, d)
	for k, x := range []struct{ ks, want []uint8 }{
		{nil, nil}, {[]uint8{}, nil}, {[]uint8{0}, nil}, {[]uint8{api.CEnd}, nil}, {[]uint8{12, 20, 27, 255}, nil},
		{[]uint8{api.CSend}, []uint8{0, 3}}, {[]uint8{api.CRecv, api.CSend}, []uint8{0, 2, 3}}, {[]uint8{api.CSend, api.CSend}, []uint8{0, 3}},
		{[]uint8{api.MReady, 0, api.CRecv}, []uint8{1, 2}}, {[]uint8{api.CRecv, api.MReady, api.CSend}, []uint8{0, 1, 2, 3}},
	} {
		var want []api.Entry
		for _, i := range x.want {
			want = append(want, []api.Entry{a, b, c, d}[i])
		}
		if got := l.Kind(x.ks...); !slices.Equal(got, want) {
			t.Errorf("%d: Kind(%v) is %v", k, x.ks, got)
		}
	}
}

// TestP152Between: from is within, to is not; none, where to is from or below it, whatever stands there.
func TestP152Between(t *testing.T) {
	var row []api.Entry
	for _, at := range []int64{0, 3, 3, 5, 5, 5, 9, math.MaxInt64 - 1, math.MaxInt64} {
		row = append(row, of(api.MReady, at, len(row), 0, 0))
	}
	l, _ := made(t, row...)
	for _, c := range []struct {
		from, to    int64
		first, last int
	}{
		{0, 0, 0, 0}, {0, 1, 0, 1}, {1, 3, 0, 0}, {1, 4, 1, 3}, {3, 3, 0, 0}, {3, 4, 1, 3}, {3, 5, 1, 3}, {3, 6, 1, 6}, {4, 6, 3, 6}, {5, 3, 0, 0}, {9, 0, 0, 0}, {6, 9, 0, 0}, {9, 10, 6, 7},
		{math.MinInt64, math.MinInt64, 0, 0}, {math.MinInt64, 0, 0, 0}, {math.MinInt64, 1, 0, 1}, {-5, 5, 0, 3}, {10, math.MaxInt64 - 1, 0, 0}, {10, math.MaxInt64, 7, 8},
		{math.MinInt64, math.MaxInt64, 0, 8}, {math.MaxInt64, math.MinInt64, 0, 0}, {math.MaxInt64, math.MaxInt64, 0, 0}, {math.MaxInt64, 0, 0, 0}, {math.MaxInt64 - 1, math.MaxInt64, 7, 8},
	} {
		if got := l.Between(c.from, c.to); !slices.Equal(got, row[c.first:c.last]) {
			t.Errorf("Between(%d, %d) is %v", c.from, c.to, got)
		}
	}
}

// TestP152Last: the last one of any, of one kind, of several; its place is that in the whole list.
func TestP152Last(t *testing.T) {
	row := []api.Entry{of(api.CBlock, 1, 0, 0, 0), of(api.CSend, 2, 1, 0, 0), of(api.MReady, 2, 2, 0, 0), of(api.CSend, 2, 3, 0, 0), of(api.MFree, 4, 0, 0, 0)}
	l, _ := made(t, row...)
	for k, c := range []struct {
		ks []uint8
		at int
	}{
		{nil, 4}, {[]uint8{}, 4}, {[]uint8{api.CBlock}, 0}, {[]uint8{api.CSend}, 3}, {[]uint8{api.MReady}, 2}, {[]uint8{api.CEnd}, -1}, {[]uint8{0}, -1}, {[]uint8{12, 27, 255}, -1},
		{[]uint8{api.CSend, api.CBlock}, 3}, {[]uint8{api.CBlock, api.CSend}, 3}, {[]uint8{api.CEnd, api.CBlock}, 0}, {[]uint8{api.MReady, api.MFree, api.MFree}, 4}, {[]uint8{255, api.MReady}, 2},
	} {
		var want api.Entry
		if c.at >= 0 {
			want = row[c.at]
		}
		if at, x, is := l.Last(c.ks...); at != c.at || x != want || is != (c.at >= 0) {
			t.Errorf("%d: Last(%v) is %d, %v, %v", k, c.ks, at, x, is)
		}
	}
	for _, ks := range groups() {
		if at, x, is := log.New().Last(ks...); at != -1 || x != (api.Entry{}) || is {
			t.Errorf("Last(%v) of none is %d, %v, %v", ks, at, x, is)
		}
	}
}

// TestP152KeepsNothing: the kinds that are handed in stay as they are.
func TestP152KeepsNothing(t *testing.T) {
	l, _ := made(t, mixed(30, 4)...)
	ks := []uint8{api.MFree, 0, api.CSend, api.MFree, 255}
	l.Kind(ks...)
	l.Last(ks...)
	if !slices.Equal(ks, []uint8{api.MFree, 0, api.CSend, api.MFree, 255}) {
		t.Error(ks)
	}
}

// asked are all ways to be told a list.
func asked(l *log.Log) [][]api.Entry {
	return [][]api.Entry{l.List(), l.Commits(), l.Of(0), l.Of(1), l.Kind(kinds()...), l.Kind(api.CSend, api.MFree), l.Between(0, math.MaxInt64), l.Between(2, 9)}
}

// TestP152ListsAreNew: a list that was told is its asker's: what is written to it, or behind it, changes neither the log nor another list, nor the other way round.
func TestP152ListsAreNew(t *testing.T) {
	for _, row := range rows() {
		l, p := made(t, row...)
		for i := range asked(l) {
			lists, others, want := asked(l), asked(l), asked(l)
			one := lists[i]
			for k := range one {
				one[k] = of(api.MPoll, 77, 7, 7, 7)
			}
			_ = append(one, of(api.MPoll, 78, 7, 7, 7))
			short(t, l, p)
			for k := range lists {
				if !slices.Equal(others[k], want[k]) || k != i && !slices.Equal(lists[k], want[k]) {
					t.Fatalf("of %v: list %d is changed by list %d", row, k, i)
				}
			}
		}
		same(t, l, p)
	}
}

func TestP153Nil(t *testing.T) {
	var l *log.Log
	if l.Len() != 0 || l.End() != -1 || l.Ended() || l.Copy() != nil {
		t.Error(l.Len(), l.End(), l.Ended(), l.Copy())
	}
}

func TestP153None(t *testing.T) {
	l := log.New()
	if l.Len() != 0 || l.End() != -1 || l.Ended() || l.Copy() == nil {
		t.Error(l.Len(), l.End(), l.Ended(), l.Copy())
	}
}

// TestP153LenEnd: an At of 0 is told from none, and a mark's At counts as a commit's.
func TestP153LenEnd(t *testing.T) {
	l := log.New()
	for i, c := range []struct {
		kind uint8
		at   int64
	}{{api.MFree, 0}, {api.CBlock, 0}, {api.CSend, 3}, {api.MReady, 3}, {api.MReady, 4}, {api.CEnd, 4}, {api.MDispatch, 1 << 40}, {api.CEnd, math.MaxInt64}} {
		if e := l.Put(of(c.kind, c.at, 0, 0, 0)); e != api.OK || l.Len() != i+1 || l.End() != c.at || l.Ended() {
			t.Errorf("%d: Put is %v, Len %d, End %d, Ended %v", i, e, l.Len(), l.End(), l.Ended())
		}
	}
}

// TestP153Ended: by a CFault alone, of each code, with marks ahead of it and without; what is refused behind it changes nothing of that.
func TestP153Ended(t *testing.T) {
	for _, k := range kinds() {
		for code := api.FaultSend; code <= api.FaultMany; code++ {
			x := of(k, 3, 1, 1, 1)
			if k == api.CFault {
				x.Code = code
			}
			for _, ahead := range [][]api.Entry{nil, {of(api.MFree, 3, 0, 0, 0)}, {of(api.CEnd, 3, 0, 0, 0)}, mixed(1, 0)} {
				l, _ := made(t, append(slices.Clone(ahead), x)...)
				for range 2 {
					if l.Ended() != (k == api.CFault) {
						t.Errorf("of %v, %v Ended is %v", ahead, x, l.Ended())
					}
					l.Put(of(api.MReady, 4, 0, 0, 0))
				}
			}
		}
	}
}

// TestP153Copy: a copy is the same, and both go on apart.
func TestP153Copy(t *testing.T) {
	for n, row := range rows() {
		l, p := made(t, row...)
		c, q := l.Copy(), slices.Clone(p)
		if c == nil || c == l {
			t.Fatal("a copy is the log itself, or none")
		}
		same(t, c, q)
		last := max(p.end(), 0)
		for k := range 3 { // in turn, so that neither writes where the other one does
			put(t, l, &p, of(api.CBlock, last, 1, 0, n+k))
			put(t, c, &q, of(api.MFree, last, 0, 0, n+k))
			short(t, l, p)
			short(t, c, q)
		}
		put(t, c, &q, of(api.CFault, last, 1, -1, n)) // and one ends, the other does not
		put(t, l, &p, of(api.CEnd, last, 2, 0, n))
		same(t, l, p)
		same(t, c, q)
		same(t, c.Copy().Copy(), q)
	}
}

// TestP153CopyIsOfItsOwn: what is written to a list that a log, or its copy, told, changes neither.
func TestP153CopyIsOfItsOwn(t *testing.T) {
	l, p := made(t, mixed(25, 8)...)
	c := l.Copy()
	for _, one := range append(asked(l), asked(c)...) {
		clear(one)
	}
	same(t, l, p)
	same(t, c, p)
}

// TestP154AllShort holds logs against plain ones, over all rows of 4 of these.
func TestP154AllShort(t *testing.T) {
	const long = 4
	some := []api.Entry{of(api.CSend, 0, 0, 0, 0), of(api.CBlock, 2, 1, 0, 0), of(api.CMeet, 3, 1, 0, 0), of(api.CFault, 2, 0, -1, 0), of(api.CFault, 3, 2, 1, 1), of(api.MFree, 2, 0, 0, 0), of(api.MReady, 3, 1, 0, 0), {}, {At: 3, Kind: 12}, of(api.CEnd, -1, 0, 0, 0)}
	all := 1
	for range long {
		all *= len(some)
	}
	for row := range all {
		l, p := log.New(), plain{}
		for left, k := row, 0; k < long; left, k = left/len(some), k+1 {
			put(t, l, &p, some[left%len(some)])
			short(t, l, p)
		}
		if row%97 == 0 {
			same(t, l, p)
		}
	}
}

// TestP154Stays: what was put stays as it stood, at its place, whatever is put behind it, or refused; lists that were told stay too.
func TestP154Stays(t *testing.T) {
	row := append(mixed(300, 21), of(api.CFault, 1<<30, 3, -1, 0))
	l := log.New()
	var told [][]api.Entry
	for i, x := range row {
		told = append(told, l.List())
		if e := l.Put(x); e != api.OK {
			t.Fatal(i, x, e)
		}
		for _, y := range bad()[:4] {
			l.Put(y)
		}
		if got := l.List(); !slices.Equal(got, row[:i+1]) {
			t.Fatalf("behind Put %d List is %v", i, got)
		}
	}
	for _, x := range each(1<<30, 0, 0) {
		l.Put(x)
	}
	for i, one := range told {
		if !slices.Equal(one, row[:i]) {
			t.Fatalf("the list that was told ahead of Put %d is %v", i, one)
		}
	}
	same(t, l, row)
}

// TestP154Parts: parts of a whole, each in order, that come together to it again.
func TestP154Parts(t *testing.T) {
	for _, row := range rows() {
		l, p := made(t, row...)
		marks := l.Kind(api.MDispatch, api.MReady, api.MPreempt, api.MLocked, api.MPoll, api.MFree)
		if got := l.Kind(1, 2, 3, 4, 5, 6, 7, 8, 9, 10, 11); !slices.Equal(got, l.Commits()) {
			t.Errorf("of %v: by their kinds the commits are %v", row, got)
		}
		commits := l.Commits()
		for _, x := range p {
			part := &commits
			if x.Kind >= api.MarkFrom {
				part = &marks
			}
			if len(*part) == 0 || (*part)[0] != x {
				t.Fatalf("of %v: commits and marks are not in order", row)
			}
			*part = (*part)[1:]
		}
		if len(commits) > 0 || len(marks) > 0 {
			t.Errorf("of %v: there are more commits, or marks, than entries", row)
		}
		for _, at := range []int64{0, 1, 3, 8, 1 << 59} {
			parted := slices.Concat(l.Between(math.MinInt64, at), l.Between(at, math.MaxInt64), l.Between(math.MaxInt64, math.MinInt64))
			if last := len(p) - len(parted); !slices.Equal(parted, p[:len(parted)]) || last > 0 && p[len(parted)].At != math.MaxInt64 {
				t.Errorf("of %v: parted at %d it is %v", row, at, parted)
			}
		}
	}
}

// TestP154OwnList: a log that is made of its own list is the same, and goes on likewise.
func TestP154OwnList(t *testing.T) {
	for _, row := range rows() {
		l, p := made(t, row...)
		c, e := log.From(l.List()...)
		if e != api.OK || c == nil || c == l {
			t.Fatalf("of %v: From is %v, %v", row, c, e)
		}
		same(t, c, p)
		q := slices.Clone(p)
		for _, x := range append(mixed(6, len(row)), of(api.MReady, math.MaxInt64, 0, 0, 0), of(api.CFault, math.MaxInt64, 0, 0, 0)) {
			put(t, c, &q, x)
		}
		same(t, c, q)
		same(t, l, p)
	}
}

// TestP154PartsAreLogs: of each list that a log tells a log can be made, which is that list.
func TestP154PartsAreLogs(t *testing.T) {
	for _, row := range rows() {
		l, _ := made(t, row...)
		for _, part := range asked(l) {
			c, e := log.From(part...)
			if e != api.OK {
				t.Fatalf("of %v: From(%v) is %v", row, part, e)
			}
			same(t, c, part)
		}
	}
}

// TestP154Long: a long log, put one by one, whose last commit, far ahead of its end, is no CFault.
func TestP154Long(t *testing.T) {
	const n = 100000
	l := log.New()
	l.Put(of(api.CBlock, 0, 5, 0, 0))
	for i := range n {
		if e := l.Put(of(api.MReady, int64(i), i%32, 0, i)); e != api.OK {
			t.Fatal(i, e)
		}
	}
	if l.Len() != n+1 || l.End() != n-1 || l.Ended() || len(l.Of(7)) != n/32 || len(l.Between(5, 15)) != 10 || len(l.List()) != n+1 {
		t.Error(l.Len(), l.End(), l.Ended(), len(l.Of(7)))
	}
	if at, x, is := l.Last(api.CBlock); at != 0 || x.Task != 5 || !is {
		t.Error(at, x, is)
	}
	many := slices.Repeat([]uint8{0, api.CEnd, 255}, n) // kinds that are told many times cost no more than once for each entry
	if got := l.Kind(many...); len(got) != 0 {
		t.Error(len(got))
	}
	if at, _, is := l.Last(many...); at != -1 || is {
		t.Error(at, is)
	}
}
