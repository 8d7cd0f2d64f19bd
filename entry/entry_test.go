package entry_test

import (
	"fmt"
	"math"
	"math/big"
	"slices"
	"strconv"
	"strings"
	"testing"

	"tollbar/api"
	"tollbar/entry"
	"tollbar/sample"
)

// field is one of an entry's: a way to ask it, and to set it, by a number without bounds.
type field struct {
	name string
	get  func(x api.Entry) *big.Int
	set  func(x *api.Entry, v int64)
}

// ints makes a field of type int.
func ints(name string, at func(x *api.Entry) *int) field {
	return field{name,
		func(x api.Entry) *big.Int { return big.NewInt(int64(*at(&x))) },
		func(x *api.Entry, v int64) { *at(x) = int(v) }}
}

// wide makes a field of 64 bits.
func wide(name string, at func(x *api.Entry) *int64) field {
	return field{name,
		func(x api.Entry) *big.Int { return big.NewInt(*at(&x)) },
		func(x *api.Entry, v int64) { *at(x) = v }}
}

// fields are all but At and Kind, in the chapter's order.
var fields = []field{
	ints("Worker", func(x *api.Entry) *int { return &x.Worker }),
	ints("Task", func(x *api.Entry) *int { return &x.Task }),
	ints("Peer", func(x *api.Entry) *int { return &x.Peer }),
	ints("Ch", func(x *api.Entry) *int { return &x.Ch }),
	ints("Case", func(x *api.Entry) *int { return &x.Case }),
	ints("PeerCase", func(x *api.Entry) *int { return &x.PeerCase }),
	wide("Val", func(x *api.Entry) *int64 { return &x.Val }),
	wide("Val2", func(x *api.Entry) *int64 { return &x.Val2 }),
	{"Ok",
		func(x api.Entry) *big.Int { return big.NewInt(map[bool]int64{true: 1}[x.Ok]) },
		func(x *api.Entry, v int64) { x.Ok = v != 0 }},
	{"Code",
		func(x api.Entry) *big.Int { return big.NewInt(int64(x.Code)) },
		func(x *api.Entry, v int64) { x.Code = api.Errno(v) }},
	{"Set",
		func(x api.Entry) *big.Int { return new(big.Int).SetUint64(uint64(x.Set)) },
		func(x *api.Entry, v int64) { x.Set = api.Set(v) }},
}

// told are the chapter's words of a kind: its word, and what it names.
type told struct {
	word  string
	names string
}

// chapter is the chapter's list of kinds.
var chapter = map[uint8]told{
	1:  {"send", "Task Ch Case Val"},
	2:  {"recv", "Task Ch Case Val Ok"},
	3:  {"meet", "Task Peer Ch Case PeerCase Val Ok"},
	4:  {"refill", "Task Peer Ch Case PeerCase Val Val2"},
	5:  {"close", "Task Ch"},
	6:  {"wake", "Task Peer Ch Case"},
	7:  {"default", "Task"},
	8:  {"block", "Task"},
	9:  {"spawn", "Task Peer Case"},
	10: {"end", "Task"},
	11: {"fault", "Task Peer Code"},
	21: {"dispatch", "Worker Task"},
	22: {"ready", "Worker Task"},
	23: {"preempt", "Worker Task"},
	24: {"locked", "Worker Task"},
	25: {"poll", "Worker Task Set"},
	26: {"free", "Worker"},
}

// numbers are the Kinds that there are, rising.
func numbers() (l []uint8) {
	for k := range 256 {
		if _, is := chapter[uint8(k)]; is {
			l = append(l, uint8(k))
		}
	}
	return l
}

// namesField is whether entries of that Kind name that field.
func namesField(kind uint8, f field) bool {
	return slices.Contains(strings.Fields(chapter[kind].names), f.name)
}

// bounds are the first and the last number of a field that is named; whole is whether it has no other bounds than its type.
func bounds(kind uint8, name string) (first, last int64, whole bool) {
	switch {
	case name == "Worker":
		return 0, 254, false
	case name == "Peer" && kind == 11:
		return -1, 31, false
	case name == "Task" || name == "Peer":
		return 0, 31, false
	case name == "Ch":
		return 0, 5, false
	case name == "Case" && kind == 9:
		return 0, 7, false
	case name == "Case" || name == "PeerCase":
		return -1, 5, false
	case name == "Ok":
		return 0, 1, false
	case name == "Code":
		return 140, 143, false
	}
	return math.MinInt64, math.MaxInt64, true
}

// may is whether x may be, by the chapter's words.
func may(x api.Entry) bool {
	if _, is := chapter[x.Kind]; !is || x.At < 0 {
		return false
	}
	for _, f := range fields {
		v := f.get(x)
		first, last, whole := bounds(x.Kind, f.name)
		switch {
		case !namesField(x.Kind, f):
			if v.Sign() != 0 {
				return false
			}
		case !whole && (v.Cmp(big.NewInt(first)) < 0 || v.Cmp(big.NewInt(last)) > 0):
			return false
		}
	}
	return true
}

// number is the bytes of v, 0 or above, by big numbers.
func number(v *big.Int) string {
	var b []byte
	left := new(big.Int).Set(v)
	for {
		low := new(big.Int)
		left.DivMod(left, big.NewInt(128), low)
		if left.Sign() == 0 {
			return string(append(b, byte(low.Int64())))
		}
		b = append(b, byte(low.Int64()+128))
	}
}

// signed is the bytes of v, a number with a sign.
func signed(v *big.Int) string {
	twice := new(big.Int).Mul(v, big.NewInt(2))
	if v.Sign() < 0 {
		twice.Neg(twice)
		twice.Sub(twice, big.NewInt(1))
	}
	return number(twice)
}

// fieldBytes are those of a field that is named.
func fieldBytes(name string, v *big.Int) string {
	switch name {
	case "Peer", "Case", "PeerCase":
		return number(new(big.Int).Add(v, big.NewInt(1)))
	case "Val", "Val2":
		return signed(v)
	}
	return number(v)
}

// parts are the bytes of x, number by number.
func parts(x api.Entry) []string {
	l := []string{number(big.NewInt(x.At)), number(big.NewInt(int64(x.Kind)))}
	for _, f := range fields {
		if namesField(x.Kind, f) {
			l = append(l, fieldBytes(f.name, f.get(x)))
		}
	}
	return l
}

// written is the bytes of x.
func written(x api.Entry) string { return strings.Join(parts(x), "") }

// lineOf is the line of x.
func lineOf(x api.Entry) string {
	line := fmt.Sprintf("%d %s", x.At, chapter[x.Kind].word)
	for _, f := range fields {
		if namesField(x.Kind, f) {
			line += " " + f.get(x).String()
		}
	}
	return line
}

// shortNumber reads the number that s begins with: the shortest beginning that is the bytes of one.
func shortNumber(s string) (v *big.Int, rest string, is bool) {
	v = new(big.Int)
	for n := range min(len(s), 10) {
		digit := big.NewInt(int64(s[n] % 128))
		v.Add(v, digit.Lsh(digit, uint(7*n)))
		if s[n] < 128 {
			return v, s[n+1:], number(v) == s[:n+1] && v.IsUint64()
		}
	}
	return nil, "", false
}

// back is the number that a field has whose bytes tell v, and whether it has room for that.
func back(name string, v *big.Int) (int64, bool) {
	switch name {
	case "Peer", "Case", "PeerCase":
		v = new(big.Int).Sub(v, big.NewInt(1))
	case "Val", "Val2":
		half, odd := new(big.Int).DivMod(v, big.NewInt(2), new(big.Int))
		if v = half; odd.Sign() != 0 {
			v = half.Neg(half.Add(half, big.NewInt(1)))
		}
	case "Set":
		return int64(v.Uint64()), true
	case "Ok":
		return v.Int64(), v.Cmp(big.NewInt(2)) < 0
	}
	return v.Int64(), v.IsInt64()
}

// begun reads the entry that s begins with, by the chapter's words.
func begun(s string) (x api.Entry, rest string, is bool) {
	at, rest, is := shortNumber(s)
	if !is || !at.IsInt64() {
		return api.Entry{}, "", false
	}
	kind, rest, is := shortNumber(rest)
	if !is || kind.Cmp(big.NewInt(255)) > 0 {
		return api.Entry{}, "", false
	}
	x = api.Entry{At: at.Int64(), Kind: uint8(kind.Int64())}
	for _, f := range fields {
		if !namesField(x.Kind, f) {
			continue
		}
		u, behind, is := shortNumber(rest)
		if !is {
			return api.Entry{}, "", false
		}
		v, is := back(f.name, u)
		if !is {
			return api.Entry{}, "", false
		}
		f.set(&x, v)
		rest = behind
	}
	return x, rest, may(x)
}

// read is what Get must answer of s.
func read(s string) ([]api.Entry, api.Errno) {
	var l []api.Entry
	for s != "" {
		x, rest, is := begun(s)
		if !is {
			return nil, api.ErrForm
		}
		l, s = append(l, x), rest
	}
	return l, api.OK
}

// far are numbers that no field with bounds may have; many have the low bits of one that it may have.
func far() []int64 {
	return []int64{-2, -3, -127, -128, -255, -256, 255, 256, 257, 260, 256 + 140, 512, 1 << 15, 1 << 16, 1<<16 + 1, 1 << 31, 1<<31 + 1, 1<<32 - 1, 1 << 32, 1<<32 + 1, 1<<32 + 140, -1 << 31, -1 << 32, -1<<32 + 1,
		1 << 62, math.MaxInt64, math.MaxInt64 - 1, math.MinInt64, math.MinInt64 + 1}
}

// edges are numbers at which a field of 64 bits could go wrong.
func edges() []int64 {
	return []int64{0, 1, -1, 2, 5, 63, 64, -64, -65, 127, 128, 300, 16383, 16384, 1<<31 - 1, 1 << 31, 1<<32 - 1, 1 << 32, -1 << 32, 1<<53 + 1, 1 << 62, -1 << 62,
		math.MaxInt64, math.MaxInt64 - 1, math.MinInt64, math.MinInt64 + 1}
}

// ats are numbers of picks.
func ats() []int64 {
	return []int64{0, 1, 7, 127, 128, 300, 16384, 1<<32 - 1, 1 << 32, math.MaxInt64 - 1, math.MaxInt64}
}

// allowed are some numbers that a field that is named may have, all of one with bounds.
func allowed(kind uint8, name string) []int64 {
	first, last, whole := bounds(kind, name)
	if whole {
		return edges()
	}
	var l []int64
	for v := first; v <= last; v++ {
		l = append(l, v)
	}
	return l
}

// made is an entry of that Kind that may be; n alone tells what it names.
func made(kind uint8, n int) api.Entry {
	x := api.Entry{Kind: kind, At: ats()[sample.Mix(n)%uint64(len(ats()))]}
	for i, f := range fields {
		if namesField(kind, f) {
			l := allowed(kind, f.name)
			f.set(&x, l[sample.Mix(n*37+i)%uint64(len(l))])
		}
	}
	return x
}

// lowest and highest are the entries of a Kind all of whose fields are at their first, and last, number.
func lowest(kind uint8) api.Entry {
	x := api.Entry{Kind: kind}
	for _, f := range fields {
		if first, _, _ := bounds(kind, f.name); namesField(kind, f) {
			f.set(&x, first)
		}
	}
	return x
}

func highest(kind uint8) api.Entry {
	x := api.Entry{Kind: kind, At: math.MaxInt64}
	for _, f := range fields {
		if _, last, _ := bounds(kind, f.name); namesField(kind, f) {
			f.set(&x, last)
		}
	}
	return x
}

// good are entries that may be, no two of them the same: of each Kind at both ends, with each number of each field, and some more.
func good() []api.Entry {
	var l []api.Entry
	for _, kind := range numbers() {
		l = append(l, lowest(kind), highest(kind))
		for n := range 30 {
			l = append(l, made(kind, n))
		}
		for _, base := range []api.Entry{lowest(kind), made(kind, 100)} {
			for _, at := range ats() {
				x := base
				x.At = at
				l = append(l, x)
			}
			for _, f := range fields {
				if !namesField(kind, f) {
					continue
				}
				for _, v := range allowed(kind, f.name) {
					x := base
					f.set(&x, v)
					l = append(l, x)
				}
			}
		}
	}
	return unlike(l)
}

// unlike is l, each entry of it once.
func unlike(l []api.Entry) (once []api.Entry) {
	seen := map[api.Entry]bool{}
	for _, x := range l {
		if !seen[x] {
			seen[x] = true
			once = append(once, x)
		}
	}
	return once
}

// bad are entries that may not be, each wrong in one thing.
func bad() []api.Entry {
	var l []api.Entry
	for _, kind := range numbers() {
		for _, base := range []api.Entry{lowest(kind), highest(kind), made(kind, 3)} {
			for _, at := range []int64{-1, -2, math.MinInt64, math.MinInt64 + 1} {
				x := base
				x.At = at
				l = append(l, x)
			}
			for _, f := range fields {
				for _, v := range append(far(), -1, 1, 2, 6, 8, 32, 139, 144) {
					x := base
					f.set(&x, v)
					if !may(x) {
						l = append(l, x)
					}
				}
			}
		}
	}
	for kind := range 256 {
		if _, is := chapter[uint8(kind)]; !is {
			l = append(l, api.Entry{Kind: uint8(kind)}, api.Entry{Kind: uint8(kind), At: 5, Task: 1}, api.Entry{Kind: uint8(kind), Worker: 1, Task: 1})
		}
	}
	return unlike(l)
}

// TestOwnWords holds this file's own words against the example of the chapter, and against the numbers of package api.
func TestOwnWords(t *testing.T) {
	x := api.Entry{At: 7, Kind: api.CMeet, Peer: 2, Ch: 1, Case: api.Plain, PeerCase: api.Plain, Val: 5, Ok: true}
	if !may(x) || written(x) != "\x07\x03\x00\x03\x01\x00\x00\x0a\x01" || lineOf(x) != "7 meet 0 2 1 -1 -1 5 1" {
		t.Errorf("%v %q %q", may(x), written(x), lineOf(x))
	}
	if api.MaxWorkers != 255 || api.MaxTasks != 32 || api.NoTask != -1 || api.MaxChans != 6 || api.Plain != -1 || api.MaxCases != 6 || api.MaxCodes != 8 {
		t.Error("limits")
	}
	if len(good()) < 2000 || len(bad()) < 5000 {
		t.Error(len(good()), len(bad()))
	}
}

func TestP141Word(t *testing.T) {
	for kind := range 256 {
		if got, want := entry.Word(uint8(kind)), chapter[uint8(kind)].word; got != want {
			t.Errorf("Word(%d) is %q, not %q", kind, got, want)
		}
	}
	for kind, want := range map[uint8]string{
		api.CSend: "send", api.CRecv: "recv", api.CMeet: "meet", api.CRefill: "refill", api.CClose: "close", api.CWake: "wake",
		api.CDone: "default", api.CBlock: "block", api.CSpawn: "spawn", api.CEnd: "end", api.CFault: "fault",
		api.MDispatch: "dispatch", api.MReady: "ready", api.MPreempt: "preempt", api.MLocked: "locked", api.MPoll: "poll", api.MFree: "free",
		0: "", api.Commits + 1: "", api.MarkFrom - 1: "", api.MarkTo + 1: "", 255: "",
	} {
		if got := entry.Word(kind); got != want {
			t.Errorf("Word(%d) is %q, not %q", kind, got, want)
		}
	}
}

func TestP141Commit(t *testing.T) {
	for kind := range 256 {
		if got, want := entry.Commit(uint8(kind)), kind >= 1 && kind <= 11; got != want {
			t.Errorf("Commit(%d) is %v", kind, got)
		}
	}
}

func TestP141CheckGood(t *testing.T) {
	for _, x := range good() {
		if e := entry.Check(x); e != api.OK {
			t.Errorf("Check(%+v): %v", x, e)
		}
	}
}

func TestP141CheckBad(t *testing.T) {
	for _, x := range bad() {
		if e := entry.Check(x); e != api.ErrArg {
			t.Errorf("Check(%+v): %v", x, e)
		}
	}
}

// TestP141CheckFields: each field of each Kind from below its first number to above its last one, the other fields being any.
func TestP141CheckFields(t *testing.T) {
	for _, kind := range numbers() {
		for n, base := range []api.Entry{lowest(kind), highest(kind), made(kind, 1), made(kind, 2)} {
			for _, f := range fields {
				for v := int64(-4); v < 300; v++ {
					x := base
					f.set(&x, v)
					want := api.ErrArg
					if may(x) {
						want = api.OK
					}
					if e := entry.Check(x); e != want {
						t.Errorf("kind %d, base %d, %s of %d: %v, not %v", kind, n, f.name, v, e, want)
					}
				}
			}
		}
	}
}

// TestP141CheckTwo: any two fields, both of any of some numbers.
func TestP141CheckTwo(t *testing.T) {
	some := []int64{-2, -1, 0, 1, 5, 6, 7, 8, 31, 32, 140, 143, 144, 255}
	for _, kind := range numbers() {
		base := made(kind, 4)
		for i, f := range fields {
			for _, g := range fields[i+1:] {
				for _, v := range some {
					for _, w := range some {
						x := base
						f.set(&x, v)
						g.set(&x, w)
						if e := entry.Check(x); (e == api.OK) != may(x) || e != api.OK && e != api.ErrArg {
							t.Fatalf("kind %d, %s of %d, %s of %d: %v", kind, f.name, v, g.name, w, e)
						}
					}
				}
			}
		}
	}
}

// TestP141CheckKinds: one entry, with each Kind: it may be of those alone whose fields it fills.
func TestP141CheckKinds(t *testing.T) {
	for _, from := range numbers() {
		for n := range 10 {
			x := made(from, n)
			for kind := range 256 {
				x.Kind = uint8(kind)
				if e := entry.Check(x); (e == api.OK) != may(x) {
					t.Errorf("%+v: %v", x, e)
				}
			}
		}
	}
}

// TestP141CheckNamed: what the chapter names by a word of its own.
func TestP141CheckNamed(t *testing.T) {
	for k, c := range []struct {
		x  api.Entry
		is bool
	}{
		{api.Entry{Kind: api.CFault, Peer: api.NoTask, Code: api.FaultSend}, true},
		{api.Entry{Kind: api.CFault, Peer: api.NoTask, Code: api.FaultClose}, true},
		{api.Entry{Kind: api.CFault, Peer: api.NoTask, Code: api.FaultNil}, true},
		{api.Entry{Kind: api.CFault, Peer: api.NoTask, Code: api.FaultMany}, true},
		{api.Entry{Kind: api.CFault, Peer: 31, Code: api.FaultMany}, true},
		{api.Entry{Kind: api.CFault, Peer: api.NoTask}, false},
		{api.Entry{Kind: api.CFault, Peer: api.NoTask, Code: api.ErrArg}, false},
		{api.Entry{Kind: api.CFault, Peer: api.NoTask, Code: -api.FaultSend}, false},
		{api.Entry{Kind: api.CFault, Task: api.NoTask, Code: api.FaultSend}, false},
		{api.Entry{Kind: api.CMeet, Peer: api.NoTask}, false},
		{api.Entry{Kind: api.CRefill, Peer: api.NoTask}, false},
		{api.Entry{Kind: api.CWake, Peer: api.NoTask}, false},
		{api.Entry{Kind: api.CSpawn, Peer: api.NoTask}, false},
		{api.Entry{Kind: api.CSpawn, Case: api.Plain}, false},
		{api.Entry{Kind: api.CSpawn, Case: api.MaxCodes - 1}, true},
		{api.Entry{Kind: api.CSpawn, Case: api.MaxCodes}, false},
		{api.Entry{Kind: api.CWake, Case: api.MaxCodes - 1}, false},
		{api.Entry{Kind: api.CWake, Case: api.Plain}, true},
		{api.Entry{Kind: api.CSend, Case: api.Plain, Ch: api.NoChan}, false},
		{api.Entry{Kind: api.CClose, Case: api.Plain}, false}, // it names no case: not even this one
		{api.Entry{Kind: api.CBlock, Peer: api.NoTask}, false},
		{api.Entry{Kind: api.MFree, Task: api.NoTask}, false},
		{api.Entry{Kind: api.MFree, Worker: api.MaxWorkers - 1}, true},
		{api.Entry{Kind: api.MFree, Worker: api.MaxWorkers}, false},
		{api.Entry{Kind: api.MPoll, Set: math.MaxUint64}, true},
		{api.Entry{Kind: api.MLocked, Set: 1}, false},
		{api.Entry{Kind: api.CSend, Ok: true}, false},
		{api.Entry{Kind: api.CSend, Val2: 1}, false},
		{api.Entry{}, false},
	} {
		if e := entry.Check(c.x); (e == api.OK) != c.is || !c.is && e != api.ErrArg {
			t.Errorf("%d: %+v: %v", k, c.x, e)
		}
	}
}

// spelt are entries with their lines and bytes, written out.
var spelt = []struct {
	x           api.Entry
	line, bytes string
}{
	{api.Entry{At: 7, Kind: api.CMeet, Peer: 2, Ch: 1, Case: -1, PeerCase: -1, Val: 5, Ok: true}, "7 meet 0 2 1 -1 -1 5 1", "\x07\x03\x00\x03\x01\x00\x00\x0a\x01"},
	{api.Entry{Kind: api.CMeet, Task: 1, Peer: 2, Ch: 3, Case: 4, PeerCase: 5, Val: -6}, "0 meet 1 2 3 4 5 -6 0", "\x00\x03\x01\x03\x03\x05\x06\x0b\x00"},
	{api.Entry{At: 128, Kind: api.CSend, Task: 31, Ch: 5, Case: 5, Val: -1}, "128 send 31 5 5 -1", "\x80\x01\x01\x1f\x05\x06\x01"},
	{api.Entry{At: 1, Kind: api.CSend, Case: -1, Val: math.MinInt64}, "1 send 0 0 -1 -9223372036854775808", "\x01\x01\x00\x00\x00\xff\xff\xff\xff\xff\xff\xff\xff\xff\x01"},
	{api.Entry{At: 2, Kind: api.CRecv, Task: 4, Ch: 3, Case: 2, Val: 64, Ok: true}, "2 recv 4 3 2 64 1", "\x02\x02\x04\x03\x03\x80\x01\x01"},
	{api.Entry{At: 2, Kind: api.CRecv, Case: -1}, "2 recv 0 0 -1 0 0", "\x02\x02\x00\x00\x00\x00\x00"},
	{api.Entry{At: 3, Kind: api.CRefill, Task: 6, Peer: 5, Ch: 4, Case: 3, PeerCase: -1, Val: 2, Val2: -2}, "3 refill 6 5 4 3 -1 2 -2", "\x03\x04\x06\x06\x04\x04\x00\x04\x03"},
	{api.Entry{At: 3, Kind: api.CRefill, Val: math.MaxInt64, Val2: math.MinInt64}, "3 refill 0 0 0 0 0 9223372036854775807 -9223372036854775808", "\x03\x04\x00\x01\x00\x01\x01\xfe\xff\xff\xff\xff\xff\xff\xff\xff\x01\xff\xff\xff\xff\xff\xff\xff\xff\xff\x01"},
	{api.Entry{At: 4, Kind: api.CClose, Task: 9, Ch: 2}, "4 close 9 2", "\x04\x05\x09\x02"},
	{api.Entry{At: 5, Kind: api.CWake, Task: 1, Peer: 31, Ch: 2, Case: 3}, "5 wake 1 31 2 3", "\x05\x06\x01\x20\x02\x04"},
	{api.Entry{At: 6, Kind: api.CDone, Task: 8}, "6 default 8", "\x06\x07\x08"},
	{api.Entry{At: 6, Kind: api.CBlock, Task: 8}, "6 block 8", "\x06\x08\x08"},
	{api.Entry{At: 6, Kind: api.CSpawn, Task: 1, Peer: 2, Case: 0}, "6 spawn 1 2 0", "\x06\x09\x01\x03\x01"},
	{api.Entry{At: 6, Kind: api.CSpawn, Task: 1, Peer: 2, Case: 7}, "6 spawn 1 2 7", "\x06\x09\x01\x03\x08"},
	{api.Entry{At: math.MaxInt64, Kind: api.CEnd, Task: 31}, "9223372036854775807 end 31", "\xff\xff\xff\xff\xff\xff\xff\xff\x7f\x0a\x1f"},
	{api.Entry{At: 300, Kind: api.CFault, Task: 1, Peer: -1, Code: api.FaultSend}, "300 fault 1 -1 140", "\xac\x02\x0b\x01\x00\x8c\x01"},
	{api.Entry{Kind: api.CFault, Task: 1, Peer: 31, Code: api.FaultClose}, "0 fault 1 31 141", "\x00\x0b\x01\x20\x8d\x01"},
	{api.Entry{Kind: api.CFault, Peer: -1, Code: api.FaultNil}, "0 fault 0 -1 142", "\x00\x0b\x00\x00\x8e\x01"},
	{api.Entry{Kind: api.CFault, Code: api.FaultMany}, "0 fault 0 0 143", "\x00\x0b\x00\x01\x8f\x01"},
	{api.Entry{At: 8, Kind: api.MDispatch, Worker: 127, Task: 2}, "8 dispatch 127 2", "\x08\x15\x7f\x02"},
	{api.Entry{At: 8, Kind: api.MReady, Worker: 128, Task: 2}, "8 ready 128 2", "\x08\x16\x80\x01\x02"},
	{api.Entry{At: 8, Kind: api.MPreempt, Worker: 254, Task: 2}, "8 preempt 254 2", "\x08\x17\xfe\x01\x02"},
	{api.Entry{At: 8, Kind: api.MLocked, Worker: 1, Task: 2}, "8 locked 1 2", "\x08\x18\x01\x02"},
	{api.Entry{At: 8, Kind: api.MPoll, Worker: 1, Task: 2, Set: 5}, "8 poll 1 2 5", "\x08\x19\x01\x02\x05"},
	{api.Entry{At: 8, Kind: api.MPoll, Worker: 1, Task: 2, Set: 1 << 63}, "8 poll 1 2 9223372036854775808", "\x08\x19\x01\x02\x80\x80\x80\x80\x80\x80\x80\x80\x80\x01"},
	{api.Entry{At: 8, Kind: api.MPoll, Set: math.MaxUint64}, "8 poll 0 0 18446744073709551615", "\x08\x19\x00\x00\xff\xff\xff\xff\xff\xff\xff\xff\xff\x01"},
	{api.Entry{At: 9, Kind: api.MFree, Worker: 254}, "9 free 254", "\x09\x1a\xfe\x01"},
	{api.Entry{Kind: api.MFree}, "0 free 0", "\x00\x1a\x00"},
}

func TestP142WrittenOut(t *testing.T) {
	for _, c := range spelt {
		if s, e := entry.Put(c.x); s != c.bytes || e != api.OK {
			t.Errorf("Put(%+v): %q %v, not %q", c.x, s, e, c.bytes)
		}
		if l, e := entry.Get(c.bytes); !slices.Equal(l, []api.Entry{c.x}) || e != api.OK {
			t.Errorf("Get(%q): %+v %v, not %+v", c.bytes, l, e, c.x)
		}
		if s, e := entry.Line(c.x); s != c.line || e != api.OK {
			t.Errorf("Line(%+v): %q %v, not %q", c.x, s, e, c.line)
		}
	}
}

func TestP142Put(t *testing.T) {
	all := ""
	for _, x := range good() {
		want := written(x)
		if s, e := entry.Put(x); s != want || e != api.OK {
			t.Errorf("Put(%+v): %q %v, not %q", x, s, e, want)
		}
		all += want
	}
	if s, e := entry.Put(good()...); s != all || e != api.OK {
		t.Errorf("Put of all: %d bytes, not %d, %v", len(s), len(all), e)
	}
	for n := range 200 {
		l := row(n)
		want := ""
		for _, x := range l {
			want += written(x)
		}
		if s, e := entry.Put(l...); s != want || e != api.OK {
			t.Errorf("row %d: %q %v, not %q", n, s, e, want)
		}
	}
}

// row is entries, of any Kinds, in any order of their At; n alone tells which and how many.
func row(n int) (l []api.Entry) {
	kinds := numbers()
	for i := range n % 9 {
		l = append(l, made(kinds[sample.Mix(n*100+i)%uint64(len(kinds))], n+i))
	}
	return l
}

func TestP142None(t *testing.T) {
	for _, l := range [][]api.Entry{nil, {}} {
		if s, e := entry.Put(l...); s != "" || e != api.OK {
			t.Errorf("%q %v", s, e)
		}
	}
	if s, e := entry.Put(); s != "" || e != api.OK {
		t.Errorf("%q %v", s, e)
	}
	if l, e := entry.Get(""); len(l) != 0 || e != api.OK {
		t.Error(l, e)
	}
}

func TestP142PutWrong(t *testing.T) {
	for _, x := range bad() {
		if s, e := entry.Put(x); s != "" || e != api.ErrArg {
			t.Errorf("Put(%+v): %q %v", x, s, e)
		}
	}
	wrong := bad()
	for n := range 300 {
		l := row(n)
		for i := range len(l) + 1 {
			x := wrong[sample.Mix(n*9+i)%uint64(len(wrong))]
			if s, e := entry.Put(slices.Insert(slices.Clone(l), i, x)...); s != "" || e != api.ErrArg {
				t.Errorf("row %d with %+v at %d: %q %v", n, x, i, s, e)
			}
		}
	}
}

func TestP142PutKeepsItsArgument(t *testing.T) {
	l := append(row(8), bad()[0])
	was := slices.Clone(l)
	entry.Put(l[:8]...)
	entry.Put(l...)
	if !slices.Equal(l, was) {
		t.Error(l)
	}
}

func TestP142Line(t *testing.T) {
	for _, x := range good() {
		if s, e := entry.Line(x); s != lineOf(x) || e != api.OK {
			t.Errorf("Line(%+v): %q %v, not %q", x, s, e, lineOf(x))
		}
	}
	for _, x := range bad() {
		if s, e := entry.Line(x); s != "" || e != api.ErrArg {
			t.Errorf("Line(%+v): %q %v", x, s, e)
		}
	}
}

func TestP142Get(t *testing.T) {
	if l, e := entry.Get(strings.Join(each(good(), written), "")); !slices.Equal(l, good()) || e != api.OK {
		t.Errorf("Get of all: %d, %v", len(l), e)
	}
	for n := range 200 {
		if l, e := entry.Get(strings.Join(each(row(n), written), "")); !slices.Equal(l, row(n)) || e != api.OK {
			t.Errorf("row %d: %+v %v", n, l, e)
		}
	}
}

// each is what f makes of each of l.
func each(l []api.Entry, f func(x api.Entry) string) (made []string) {
	for _, x := range l {
		made = append(made, f(x))
	}
	return made
}

// same holds Get of s against this file's own reading.
func same(t *testing.T, s string) {
	t.Helper()
	l, e := entry.Get(s)
	if want, f := read(s); !slices.Equal(l, want) || e != f {
		t.Fatalf("Get(%q): %+v %v, not %+v %v", s, l, e, want, f)
	}
}

// refused holds Get of s to be none.
func refused(t *testing.T, s, why string) {
	t.Helper()
	if l, e := entry.Get(s); len(l) != 0 || e != api.ErrForm {
		t.Errorf("Get(%q), %s: %+v %v", s, why, l, e)
	}
}

// TestP142GetCut: bytes that end early, alone and behind others.
func TestP142GetCut(t *testing.T) {
	for _, x := range good() {
		s := written(x)
		for n := 1; n < len(s); n++ {
			refused(t, s[:n], "cut")
		}
	}
	for n := range 100 {
		l := row(n)
		s := strings.Join(each(l, written), "")
		for i := range len(s) + 1 {
			same(t, s[:i])
		}
		for i := range len(l) {
			if got, e := entry.Get(strings.Join(each(l[:i], written), "")); !slices.Equal(got, l[:i]) || e != api.OK {
				t.Errorf("row %d, the first %d: %+v %v", n, i, got, e)
			}
		}
	}
}

// TestP142GetMore: bytes that go on behind an entry.
func TestP142GetMore(t *testing.T) {
	for _, x := range good() {
		s := written(x)
		for _, more := range []string{"\x00", "\x01", "\x7f", "\x80", "\xff", "\x00\x00", "\x00\x0c\x00", "\x00\x0a", "\x00\x0a\x20", "\x00\x1b\x00", "\x80\x00\x0a\x00"} {
			refused(t, s+more, "goes on")
		}
		if l, e := entry.Get(s + "\x00\x0a\x00"); !slices.Equal(l, []api.Entry{x, {Kind: api.CEnd}}) || e != api.OK {
			t.Errorf("%+v and an end: %+v %v", x, l, e)
		}
	}
}

// TestP142GetKinds: each Kind, and numbers beyond 255 that have the low bits of one.
func TestP142GetKinds(t *testing.T) {
	for _, at := range ats() {
		head := number(big.NewInt(at))
		for kind := range 600 {
			for _, tail := range []string{"", "\x00", "\x00\x00", "\x01\x01\x01", "\x01\x01\x01\x01", "\x01\x01\x01\x01\x01", "\x01\x01\x01\x01\x01\x01\x01", "\x01\x01\x8c\x01"} {
				same(t, head+number(big.NewInt(int64(kind)))+tail)
			}
		}
	}
	for _, kind := range numbers() {
		for _, x := range []api.Entry{lowest(kind), made(kind, 5)} {
			for _, up := range []uint{8, 9, 16, 31, 32, 63} {
				l := parts(x)
				v := new(big.Int).Lsh(big.NewInt(1), up)
				l[1] = number(v.Add(v, big.NewInt(int64(kind))))
				refused(t, strings.Join(l, ""), "kind with a bit more")
			}
		}
	}
}

// TestP142GetNumbers: at each place of an entry's bytes another number: each small one, and many that are greater.
func TestP142GetNumbers(t *testing.T) {
	var l []*big.Int
	for v := range int64(300) {
		l = append(l, big.NewInt(v))
	}
	for up := uint(9); up <= 64; up++ {
		for _, d := range []int64{-2, -1, 0, 1, 2, 5, 140, 141} {
			v := new(big.Int).Lsh(big.NewInt(1), up)
			if v.Add(v, big.NewInt(d)); v.IsUint64() {
				l = append(l, v)
			}
		}
	}
	for _, kind := range numbers() {
		for _, x := range []api.Entry{lowest(kind), highest(kind), made(kind, 6)} {
			for i := range parts(x) {
				for _, v := range l {
					p := parts(x)
					p[i] = number(v)
					same(t, strings.Join(p, ""))
				}
			}
		}
	}
}

// TestP142GetForms: at each place bytes that are no number of layer 1, or begin none.
func TestP142GetForms(t *testing.T) {
	nine := strings.Repeat("\xff", 9)
	for _, kind := range numbers() {
		for _, x := range []api.Entry{lowest(kind), highest(kind), made(kind, 7)} {
			for i, was := range parts(x) {
				long := []byte(was)
				long[len(long)-1] |= 0x80
				for _, none := range []string{string(long) + "\x00", "\x80\x00", nine + "\x02", nine + "\x7f", nine + "\x81", nine + "\xff\x00", nine + "\xff\x01", "\x80\x80\x80\x80\x80\x80\x80\x80\x80\x02"} {
					p := parts(x)
					p[i] = none
					refused(t, strings.Join(p, ""), "no number")
				}
				p := parts(x)
				p[i] = ""
				same(t, strings.Join(p, ""))
				p[i] = was + was
				same(t, strings.Join(p, ""))
			}
		}
	}
}

// TestP142GetOneByte: all that one byte other, more or fewer makes of an entry's bytes.
func TestP142GetOneByte(t *testing.T) {
	for _, kind := range numbers() {
		for _, x := range []api.Entry{lowest(kind), made(kind, 8)} {
			s := written(x)
			for i := range len(s) {
				same(t, s[:i]+s[i+1:])
				for b := range 256 {
					one := string([]byte{byte(b)})
					same(t, s[:i]+one+s[i+1:])
					same(t, s[:i]+one+s[i:])
				}
			}
		}
	}
}

// TestP142GetAllShort: all rows of few bytes, of those at which something changes.
func TestP142GetAllShort(t *testing.T) {
	for a := range 256 {
		same(t, string([]byte{byte(a)}))
		for b := range 256 {
			same(t, string([]byte{byte(a), byte(b)}))
			same(t, string([]byte{0, byte(a), byte(b)}))
			same(t, string([]byte{0, byte(a), byte(b), 0}))
			same(t, string([]byte{0, byte(a), 1, byte(b)}))
		}
	}
	some := []byte{0, 1, 5, 6, 7, 10, 11, 26, 32, 128}
	n := len(some)
	for i := range n * n * n * n * n {
		same(t, string([]byte{some[i%n], some[i/n%n], some[i/n/n%n], some[i/n/n/n%n], some[i/n/n/n/n]}))
	}
}

func TestP142GetIsNew(t *testing.T) {
	s := strings.Join(each(row(8), written), "")
	a, _ := entry.Get(s)
	for k := range a {
		a[k] = api.Entry{}
	}
	if b, e := entry.Get(s); !slices.Equal(b, row(8)) || e != api.OK {
		t.Error(b, e)
	}
}

// TestP143PutAndGot: what was put is got, alone and in rows; what is got is put as it stood.
func TestP143PutAndGot(t *testing.T) {
	for _, x := range good() {
		s, e := entry.Put(x)
		l, f := entry.Get(s)
		if !slices.Equal(l, []api.Entry{x}) || e != api.OK || f != api.OK {
			t.Errorf("%+v: %q %v, %+v %v", x, s, e, l, f)
		}
	}
	for n := range 500 {
		s, e := entry.Put(row(n)...)
		l, f := entry.Get(s)
		if !slices.Equal(l, row(n)) || e != api.OK || f != api.OK {
			t.Errorf("row %d: %q %v, %+v %v", n, s, e, l, f)
		}
	}
}

// TestP143AsItStood: whatever bytes are got are put as they stood.
func TestP143AsItStood(t *testing.T) {
	got := 0
	check := func(s string) {
		l, e := entry.Get(s)
		if e != api.OK {
			return
		}
		got++
		if again, e := entry.Put(l...); again != s || e != api.OK {
			t.Fatalf("%q is %+v, put as %q %v", s, l, again, e)
		}
		for _, x := range l {
			if e := entry.Check(x); e != api.OK {
				t.Fatalf("%q has %+v: %v", s, x, e)
			}
		}
	}
	for n := range 400 {
		s := strings.Join(each(row(n%40), written), "")
		for i := range len(s) {
			b := []byte(s)
			b[i] = byte(sample.Mix(n*1000 + i))
			check(string(b))
			b[i] = s[i] + 1
			check(string(b))
			check(s[:i] + s[i+1:])
			check(s[:i])
		}
	}
	for i := range 1 << 18 {
		check(string([]byte{byte(i & 1), byte(i >> 1 & 31), byte(i >> 6 & 31), byte(i >> 11 & 127)}))
		check(string([]byte{byte(i & 1), byte(i >> 1 & 31), byte(i >> 6 & 63), byte(i >> 12 & 7), byte(i >> 15 & 7)}))
	}
	if got < 1000 {
		t.Error("few were got:", got)
	}
}

// TestP143Unlike: unlike entries have unlike lines, and unlike bytes.
func TestP143Unlike(t *testing.T) {
	lines, bytes := map[string]api.Entry{}, map[string]api.Entry{}
	add := func(x api.Entry) {
		line, _ := entry.Line(x)
		if y, is := lines[line]; is || line == "" {
			t.Errorf("%+v and %+v have one line: %q", x, y, line)
		}
		s, _ := entry.Put(x)
		if y, is := bytes[s]; is || s == "" {
			t.Errorf("%+v and %+v have the same bytes: %q", x, y, s)
		}
		lines[line], bytes[s] = x, x
	}
	l := good()
	for n := range 3000 {
		l = append(l, made(numbers()[n%len(numbers())], 1000+n))
	}
	for _, x := range unlike(l) {
		add(x)
	}
}

// TestP143Swapped: two fields of an entry that are told the other way round tell another one.
func TestP143Swapped(t *testing.T) {
	for _, kind := range numbers() {
		for i, f := range fields {
			for _, g := range fields[i+1:] {
				x := lowest(kind)
				f.set(&x, 1)
				g.set(&x, 0)
				y := x
				f.set(&y, 0)
				g.set(&y, 1)
				if !may(x) || !may(y) {
					continue
				}
				a, _ := entry.Line(x)
				b, _ := entry.Line(y)
				c, _ := entry.Put(x)
				d, _ := entry.Put(y)
				if a == b || c == d || a == "" || c == "" {
					t.Errorf("kind %d, %s and %s: %q %q, %q %q", kind, f.name, g.name, a, b, c, d)
				}
			}
		}
	}
}

// TestP143LineTells: the words of a line, at their places, are its At, its kind's word, and its numbers.
func TestP143LineTells(t *testing.T) {
	for _, x := range good() {
		line, _ := entry.Line(x)
		words := strings.Split(line, " ")
		names := strings.Fields(chapter[x.Kind].names)
		if len(words) != 2+len(names) || words[1] != entry.Word(x.Kind) || words[0] != strconv.FormatInt(x.At, 10) {
			t.Fatalf("%+v: %q", x, line)
		}
		again := api.Entry{At: x.At, Kind: x.Kind}
		for _, f := range fields {
			if i := slices.Index(names, f.name); i >= 0 {
				v, is := new(big.Int).SetString(words[2+i], 10)
				if !is {
					t.Fatalf("%+v: %q", x, line)
				}
				f.set(&again, int64(new(big.Int).And(v, new(big.Int).SetUint64(math.MaxUint64)).Uint64()))
			}
		}
		if again != x {
			t.Errorf("%q tells %+v, not %+v", line, again, x)
		}
	}
}
