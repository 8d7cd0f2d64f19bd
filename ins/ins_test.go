package ins_test

import (
	"math"
	"math/big"
	"regexp"
	"slices"
	"strconv"
	"strings"
	"testing"

	"tollbar/api"
	"tollbar/ins"
)

// size is what a program has, and how long a code of it is.
type size struct{ chans, sites, codes, length int }

// fields are the letters of an instruction's fields: its registers, its channel, its number.
const fields = "ABCK"

// shape is the document's row of one kind: its word, its Op, the fields that it names in order.
type shape struct {
	word  string
	op    uint8
	names string
}

// shapes are the ten of the document, in its order.
func shapes() []shape {
	return []shape{
		{"set", 1, "AK"}, {"add", 2, "AB"}, {"jump", 3, "K"}, {"zero", 4, "AK"}, {"send", 5, "AC"},
		{"recv", 6, "ABC"}, {"close", 7, "C"}, {"select", 8, "BK"}, {"spawn", 9, "K"}, {"end", 10, ""},
	}
}

// put lays v in the field of that letter.
func put(x *api.Ins, field byte, v int) {
	switch field {
	case 'A':
		x.A = v
	case 'B':
		x.B = v
	case 'C':
		x.Ch = v
	case 'K':
		x.K = int64(v)
	}
}

// of answers the instruction of that shape that names those numbers.
func of(s shape, numbers ...int) api.Ins {
	x := api.Ins{Op: s.op}
	for i, v := range numbers {
		put(&x, s.names[i], v)
	}
	return x
}

// line is what the document says that the line of such an instruction is.
func line(s shape, numbers ...int) string {
	words := []string{s.word}
	for _, v := range numbers {
		words = append(words, strconv.Itoa(v))
	}
	return strings.Join(words, " ")
}

// may is whether x may be, by the document's words, kind by kind.
func may(x api.Ins, n size) bool {
	a, b := x.A >= 0 && x.A <= 7, x.B >= 0 && x.B <= 7
	noA, noB, noCh, noK := x.A == 0, x.B == 0, x.Ch == 0, x.K == 0
	ch := x.Ch == -1
	if x.Ch >= 0 {
		ch = x.Ch < n.chans
	}
	k := func(most int) bool { return x.K >= 0 && x.K < int64(most) }
	switch x.Op {
	case 1:
		return a && noB && noCh
	case 2:
		return a && b && noCh && noK
	case 3:
		return noA && noB && noCh && k(n.length)
	case 4:
		return a && noB && noCh && k(n.length)
	case 5:
		return a && noB && ch && noK
	case 6:
		return a && b && ch && noK
	case 7:
		return noA && noB && ch && noK
	case 8:
		return noA && b && noCh && k(n.sites)
	case 9:
		return noA && noB && noCh && k(n.codes)
	case 10:
		return noA && noB && noCh && noK
	}
	return false
}

// checked fails, unless Check answers what it must.
func checked(t *testing.T, x api.Ins, n size, is bool) {
	t.Helper()
	want := api.ErrArg
	if is {
		want = api.OK
	}
	if e := ins.Check(x, n.chans, n.sites, n.codes, n.length); e != want {
		t.Fatalf("Check(%+v) of %+v is %v, not %v", x, n, e, want)
	}
}

// lined fails, unless Line answers that line; of "" it must refuse.
func lined(t *testing.T, x api.Ins, want string) {
	t.Helper()
	e := api.OK
	if want == "" {
		e = api.ErrArg
	}
	if s, got := ins.Line(x); s != want || got != e {
		t.Fatalf("Line(%+v) is %q, %v, not %q, %v", x, s, got, want, e)
	}
}

// read fails, unless Read answers that instruction of s.
func read(t *testing.T, s string, want api.Ins) {
	t.Helper()
	if x, e := ins.Read(s); x != want || e != api.OK {
		t.Fatalf("Read(%q) is %+v, %v, not %+v", s, x, e, want)
	}
}

// none fails, unless Read says of s that it is no line, and tells nothing else.
func none(t *testing.T, s string) {
	t.Helper()
	if x, e := ins.Read(s); x != (api.Ins{}) || e != api.ErrForm {
		t.Fatalf("Read(%q) is %+v, %v", s, x, e)
	}
}

// grammar is what tells whether a text is a line, and of what, without the package: the word, and as many numbers as it names, each written as short as can be, and in an int.
func grammar() func(s string) (api.Ins, bool) {
	form := map[string]*regexp.Regexp{}
	for _, s := range shapes() {
		form[s.word] = regexp.MustCompile(`\A` + s.word + strings.Repeat(` (0|-?[1-9][0-9]*)`, len(s.names)) + `\z`)
	}
	low, high := big.NewInt(math.MinInt64), big.NewInt(math.MaxInt64)
	return func(text string) (api.Ins, bool) {
		for _, s := range shapes() {
			found := form[s.word].FindStringSubmatch(text)
			if found == nil {
				continue
			}
			var numbers []int
			for _, digits := range found[1:] {
				v, _ := new(big.Int).SetString(digits, 10)
				if v.Cmp(low) < 0 || v.Cmp(high) > 0 {
					return api.Ins{}, false
				}
				numbers = append(numbers, int(v.Int64()))
			}
			return of(s, numbers...), true
		}
		return api.Ins{}, false
	}
}

// asked fails, unless Read answers of s what the grammar does, and what is read has s as its line.
func asked(t *testing.T, is func(s string) (api.Ins, bool), s string) {
	t.Helper()
	x, ok := is(s)
	if !ok {
		none(t, s)
		return
	}
	read(t, s, x)
	lined(t, x, s)
}

// rows goes over all rows of n of these numbers.
func rows(n int, numbers []int, do func(row []int)) {
	if n == 0 {
		do(nil)
		return
	}
	rows(n-1, numbers, func(row []int) {
		for _, v := range numbers {
			do(append(slices.Clone(row), v))
		}
	})
}

// wide are numbers of all lengths, and those beside which a kind of integer ends.
func wide() []int {
	l := []int{0, math.MaxInt, math.MinInt, math.MaxInt - 1, math.MinInt + 1}
	for k := range 63 {
		l = append(l, 1<<k, -1<<k, 1<<k-1, 1-1<<k)
	}
	for p := 10; p < math.MaxInt/10; p *= 10 {
		l = append(l, p, -p, p-1, 1-p)
	}
	slices.Sort(l)
	return slices.Compact(l)
}

// some are numbers that no field may name, but perhaps a number: many have the low bits of one that may be named.
func some() []int {
	return []int{-1, 1, 2, 7, 8, -2, -8, 15, 64, 128, 255, 256, 257, -255, -256, 1 << 16, 1<<16 + 1, 1 << 31, 1<<32 - 1, 1 << 32, 1<<32 + 1, -1 << 32, 1<<32 - 1<<63,
		math.MaxInt, math.MinInt}
}

// good are lines of each kind.
func good() (l []string) {
	for _, s := range shapes() {
		l = append(l, line(s, []int{3, 0, 25}[:len(s.names)]...), line(s, []int{0, -1, 10}[:len(s.names)]...), line(s, []int{-10, 907, math.MinInt}[:len(s.names)]...))
	}
	return slices.Compact(l)
}

// TestP101CheckWrittenOut: each kind at the edges of each field that it names, in a program of 2 channels, 3 sites, 4 codes and 5 instructions.
func TestP101CheckWrittenOut(t *testing.T) {
	n := size{2, 3, 4, 5}
	registers := map[int]bool{-1: false, 0: true, 7: true, 8: false}
	channels := map[int]bool{-2: false, -1: true, 0: true, 1: true, 2: false}
	for v, is := range registers {
		checked(t, api.Ins{Op: api.OpSet, A: v}, n, is)
		checked(t, api.Ins{Op: api.OpAdd, A: v, B: 3}, n, is)
		checked(t, api.Ins{Op: api.OpAdd, A: 3, B: v}, n, is)
		checked(t, api.Ins{Op: api.OpZero, A: v, K: 4}, n, is)
		checked(t, api.Ins{Op: api.OpSend, A: v, Ch: 1}, n, is)
		checked(t, api.Ins{Op: api.OpRecv, A: v, B: 7, Ch: 1}, n, is)
		checked(t, api.Ins{Op: api.OpRecv, A: 7, B: v, Ch: -1}, n, is)
		checked(t, api.Ins{Op: api.OpSelect, B: v, K: 2}, n, is)
	}
	for v, is := range channels {
		checked(t, api.Ins{Op: api.OpSend, A: 7, Ch: v}, n, is)
		checked(t, api.Ins{Op: api.OpRecv, A: 7, B: 7, Ch: v}, n, is)
		checked(t, api.Ins{Op: api.OpClose, Ch: v}, n, is)
	}
	for v := int64(-2); v <= 7; v++ {
		checked(t, api.Ins{Op: api.OpJump, K: v}, n, v >= 0 && v <= 4)
		checked(t, api.Ins{Op: api.OpZero, A: 7, K: v}, n, v >= 0 && v <= 4)
		checked(t, api.Ins{Op: api.OpSelect, B: 7, K: v}, n, v >= 0 && v <= 2)
		checked(t, api.Ins{Op: api.OpSpawn, K: v}, n, v >= 0 && v <= 3)
		checked(t, api.Ins{Op: api.OpSet, A: 7, K: v}, n, true)
	}
	checked(t, api.Ins{Op: api.OpEnd}, n, true)
}

// TestP101CheckAll: all that small numbers make of an instruction, of each Op, in programs that have one thing more, or fewer, than others.
func TestP101CheckAll(t *testing.T) {
	sizes := []size{{}, {2, 3, 4, 5}, {5, 4, 3, 2}, {1, 1, 1, 1}, {6, 0, 0, 0}, {0, 6, 0, 0}, {0, 0, 6, 0}, {0, 0, 0, 6}, {-1, -1, -1, -1}, {-2, 7, 7, 7}, {7, -2, 7, 7}, {7, 7, -2, 7}, {7, 7, 7, -2},
		{math.MaxInt, math.MaxInt, math.MaxInt, math.MaxInt}, {math.MinInt, math.MinInt, math.MinInt, math.MinInt}}
	registers, channels, numbers := []int{-1, 0, 1, 7, 8}, []int{-2, -1, 0, 1, 2, 6}, []int{-1, 0, 1, 2, 3, 4, 5, 6}
	for _, op := range []uint8{0, 1, 2, 3, 4, 5, 6, 7, 8, 9, 10, 11, 255} {
		for _, a := range registers {
			for _, b := range registers {
				for _, ch := range channels {
					for _, k := range numbers {
						x := api.Ins{Op: op, A: a, B: b, Ch: ch, K: int64(k)}
						for _, n := range sizes {
							checked(t, x, n, may(x, n))
						}
					}
				}
			}
		}
	}
}

// TestP101CheckKinds: of all Ops ten alone may be, whatever else is 0.
func TestP101CheckKinds(t *testing.T) {
	for op := range 256 {
		checked(t, api.Ins{Op: uint8(op)}, size{1, 1, 1, 1}, op >= 1 && op <= 10)
	}
}

// TestP101CheckUnnamed: what a kind does not name is 0, and no other number, not even NoChan.
func TestP101CheckUnnamed(t *testing.T) {
	n := size{6, 12, 8, 40}
	for _, s := range shapes() {
		checked(t, of(s), n, true)
		for i := range len(fields) {
			if strings.IndexByte(s.names, fields[i]) >= 0 {
				continue
			}
			for _, v := range some() {
				x := of(s, make([]int, len(s.names))...)
				put(&x, fields[i], v)
				checked(t, x, n, false)
				lined(t, x, "")
			}
		}
	}
}

// TestP101CheckFar: numbers that are far outside, on either side; a register's or a channel's low bits do not count alone.
func TestP101CheckFar(t *testing.T) {
	for _, n := range []size{{6, 12, 8, 40}, {1, 1, 1, 1}, {1 << 33, 1 << 33, 1 << 33, 1 << 33}, {math.MaxInt, math.MaxInt, math.MaxInt, math.MaxInt}} {
		for _, s := range shapes() {
			rows(len(s.names), append(some(), 0), func(row []int) {
				x := of(s, row...)
				checked(t, x, n, may(x, n))
			})
		}
	}
	for _, v := range wide() {
		checked(t, api.Ins{Op: api.OpSet, K: int64(v)}, size{}, true)
	}
}

// TestP101CheckNone: a program that has none, or fewer than none, leaves what names no such thing as it is.
func TestP101CheckNone(t *testing.T) {
	for _, none := range []int{0, -1, -2, -6, math.MinInt} {
		n := size{none, none, none, none}
		for _, c := range []struct {
			x  api.Ins
			is bool
		}{
			{api.Ins{Op: api.OpSet, A: 7, K: 9}, true}, {api.Ins{Op: api.OpAdd, A: 7, B: 7}, true}, {api.Ins{Op: api.OpEnd}, true},
			{api.Ins{Op: api.OpSend, Ch: api.NoChan}, true}, {api.Ins{Op: api.OpRecv, Ch: api.NoChan}, true}, {api.Ins{Op: api.OpClose, Ch: api.NoChan}, true},
			{api.Ins{Op: api.OpSend}, false}, {api.Ins{Op: api.OpRecv}, false}, {api.Ins{Op: api.OpClose}, false},
			{api.Ins{Op: api.OpSend, Ch: -2}, false}, {api.Ins{Op: api.OpRecv, Ch: -2}, false}, {api.Ins{Op: api.OpClose, Ch: -2}, false},
			{api.Ins{Op: api.OpJump}, false}, {api.Ins{Op: api.OpZero}, false}, {api.Ins{Op: api.OpSelect}, false}, {api.Ins{Op: api.OpSpawn}, false},
			{api.Ins{Op: api.OpJump, K: -1}, false}, {api.Ins{Op: api.OpZero, K: -1}, false}, {api.Ins{Op: api.OpSelect, K: -1}, false}, {api.Ins{Op: api.OpSpawn, K: -1}, false},
		} {
			checked(t, c.x, n, c.is)
		}
	}
}

func TestP101Local(t *testing.T) {
	for op := range 256 {
		want := op == 1 || op == 2 || op == 3 || op == 4
		if is := ins.Local(uint8(op)); is != want {
			t.Errorf("Local(%d) is %v", op, is)
		}
	}
}

// TestP102Example: the chapter's.
func TestP102Example(t *testing.T) {
	lined(t, api.Ins{Op: api.OpRecv, A: 1, B: 2, Ch: 0}, "recv 1 2 0")
	read(t, "send 3 -1", api.Ins{Op: api.OpSend, A: 3, Ch: api.NoChan})
	none(t, "set 1 05")
}

// TestP102WrittenOut: each kind, with numbers that are all others, so that none stands in another's place.
func TestP102WrittenOut(t *testing.T) {
	for s, x := range map[string]api.Ins{
		"set 6 -70":    {Op: api.OpSet, A: 6, K: -70},
		"add 5 2":      {Op: api.OpAdd, A: 5, B: 2},
		"jump 39":      {Op: api.OpJump, K: 39},
		"zero 4 31":    {Op: api.OpZero, A: 4, K: 31},
		"send 7 5":     {Op: api.OpSend, A: 7, Ch: 5},
		"recv 1 2 3":   {Op: api.OpRecv, A: 1, B: 2, Ch: 3},
		"recv 3 2 1":   {Op: api.OpRecv, A: 3, B: 2, Ch: 1},
		"recv 0 0 -1":  {Op: api.OpRecv, Ch: -1},
		"close 4":      {Op: api.OpClose, Ch: 4},
		"close -1":     {Op: api.OpClose, Ch: -1},
		"select 3 11":  {Op: api.OpSelect, B: 3, K: 11},
		"spawn 7":      {Op: api.OpSpawn, K: 7},
		"end":          {Op: api.OpEnd},
		"set 0 0":      {Op: api.OpSet},
		"add 0 0":      {Op: api.OpAdd},
		"select 0 100": {Op: api.OpSelect, K: 100},
	} {
		lined(t, x, s)
		read(t, s, x)
	}
}

// TestP102LineAsksLess: Line asks for no bound: it tells what Check refuses, of whatever program.
func TestP102LineAsksLess(t *testing.T) {
	for s, x := range map[string]api.Ins{
		"set 8 0":       {Op: api.OpSet, A: 8},
		"add -1 -8":     {Op: api.OpAdd, A: -1, B: -8},
		"jump -1":       {Op: api.OpJump, K: -1},
		"zero 99 -3":    {Op: api.OpZero, A: 99, K: -3},
		"send 0 -2":     {Op: api.OpSend, Ch: -2},
		"recv 8 9 1000": {Op: api.OpRecv, A: 8, B: 9, Ch: 1000},
		"close -2":      {Op: api.OpClose, Ch: -2},
		"select -7 -1":  {Op: api.OpSelect, B: -7, K: -1},
		"spawn -8":      {Op: api.OpSpawn, K: -8},
		"add 9223372036854775807 -9223372036854775808":  {Op: api.OpAdd, A: math.MaxInt, B: math.MinInt},
		"send -9223372036854775808 9223372036854775807": {Op: api.OpSend, A: math.MinInt, Ch: math.MaxInt},
		"spawn -9223372036854775808":                    {Op: api.OpSpawn, K: math.MinInt64},
	} {
		if e := ins.Check(x, 6, 12, 8, 40); e != api.ErrArg {
			t.Errorf("Check(%+v) is %v", x, e)
		}
		lined(t, x, s)
		read(t, s, x)
	}
}

// TestP102LineRefuses: an Op that is none, whatever else stands there; what is wrong beside it is TestP101CheckUnnamed's.
func TestP102LineRefuses(t *testing.T) {
	for op := range 256 {
		x := api.Ins{Op: uint8(op)}
		if s, e := ins.Line(x); (e == api.OK) != (op >= 1 && op <= 10) || (s == "") != (e != api.OK) {
			t.Errorf("Line of Op %d is %q, %v", op, s, e)
		}
		if op >= 1 && op <= 10 {
			continue
		}
		for i := range len(fields) {
			put(&x, fields[i], i+1)
			lined(t, x, "")
		}
	}
}

// TestP102ReadWrittenOut: texts that are nearly a line.
func TestP102ReadWrittenOut(t *testing.T) {
	for _, s := range []string{
		"", " ", "  ", "\n", "\x00", "-", "0", "-1", "5 1 2",
		"set 01 2", "set 1 02", "set 1 00", "set 1 -02", "set 00 0", "jump 05", "jump -05", "jump 00", "jump -00", // a nought ahead
		"jump -0", "set -0 1", "set 1 -0", "jump +1", "jump +0", "jump +-1", "jump -+1", "jump --1", "jump -", "set - 1", "set 1 -", "jump 1-", // signs
		"set 0 9223372036854775808", "set 0 -9223372036854775809", "add 9223372036854775808 0", "send 0 -9223372036854775809", // one beyond what is an int
		"set 0 18446744073709551616", "set 0 18446744073709551617", "jump 99999999999999999999", "jump -99999999999999999999", "jump 1" + strings.Repeat("0", 400),
		"jump 0x1", "jump 1e1", "jump 1.0", "jump 1_0", "jump 0b1", "jump 0o7", "jump inf", "jump nan", "jump ff", "jump '1'", "jump one", // other numbers
		"1", "go 1", "stop", "nop", "sets 1 2", "se 1 2", "ends", "en", "selec 1 2", "spawn1", "set1 2", "recv0 0 0", "zeroed 0 0", // no word, another word
		"Set 1 2", "SET 1 2", "sEt 1 2", "END", "End", "Recv 1 2 3", "seT 1 2", // capital letters
		"set", "set 1", "set ", "set 1 ", "add", "add 1", "jump", "jump ", "zero", "zero 1", "send", "send 1", "recv", "recv 1", "recv 1 2", "recv 1 2 ", "close", "close ",
		"select", "select 1", "spawn", "spawn ", // one too few
		"set 1 2 3", "add 1 2 0", "jump 1 0", "zero 1 2 0", "send 1 2 0", "recv 1 2 3 0", "close 1 0", "select 1 2 0", "spawn 1 0", "end 0", "end 1", "jump 1 jump 1", "end end", // one too many
		"set  1 2", "set 1  2", "recv 1 2  3", "jump  1", "end  ", // two blanks
		" set 1 2", "set 1 2 ", " end", "end ", " jump 1", "jump 1 ", "recv 1 2 3 ", " recv 1 2 3", // a blank ahead, behind
		"set 1 2\n", "set 1 2\r\n", "end\n", "end\r", "\nend", "set 1\n2", "set\n1 2", "end\x00", "jump 1\x00", "\xef\xbb\xbfend", // a line's end, and other bytes
		"set\t1 2", "set 1\t2", "set,1,2", "set 1,2", "set 1, 2", "set 1;2", "set\u00a01\u00a02", "set\v1 2", // no blanks
		"jump ١", "jump １", "jump −1", "jump \xff", "\xff", "end\xff", "s\xc3\xa9t 1 2", "jump \xc3", // no digits, no letters
	} {
		none(t, s)
	}
}

// TestP102ReadEnds: the two ends of what an int holds, and those beside them, in each field of each kind.
func TestP102ReadEnds(t *testing.T) {
	ends := map[string]int{"9223372036854775807": math.MaxInt, "9223372036854775806": math.MaxInt - 1, "-9223372036854775808": math.MinInt, "-9223372036854775807": math.MinInt + 1}
	beyond := []string{"9223372036854775808", "-9223372036854775809", "9223372036854775817", "19223372036854775807", "92233720368547758070", "18446744073709551615", "18446744073709551616", "-18446744073709551616"}
	for _, s := range shapes() {
		for i := range len(s.names) {
			words := strings.Fields(line(s, make([]int, len(s.names))...))
			for digits, v := range ends {
				words[i+1] = digits
				x := of(s)
				put(&x, s.names[i], v)
				read(t, strings.Join(words, " "), x)
				lined(t, x, strings.Join(words, " "))
			}
			for _, digits := range beyond {
				words[i+1] = digits
				none(t, strings.Join(words, " "))
			}
		}
	}
}

// TestP102ReadNearby: all that one byte more, one fewer, or another one makes of a line.
func TestP102ReadNearby(t *testing.T) {
	is := grammar()
	for _, s := range good() {
		asked(t, is, s)
		for i := range len(s) + 1 {
			for b := range 256 {
				asked(t, is, s[:i]+string([]byte{byte(b)})+s[i:])
				if i < len(s) {
					asked(t, is, s[:i]+string([]byte{byte(b)})+s[i+1:])
				}
			}
			if i < len(s) {
				asked(t, is, s[:i]+s[i+1:])
				asked(t, is, s[:i])
				asked(t, is, s[i:])
			}
		}
	}
}

// TestP102ReadAllTails: each word with all that up to six of these bytes make behind it.
func TestP102ReadAllTails(t *testing.T) {
	is := grammar()
	tails := []string{""}
	for at, n := 0, 0; n < 6; n++ {
		end := len(tails)
		for ; at < end; at++ {
			for _, c := range " -01" {
				tails = append(tails, tails[at]+string(c))
			}
		}
	}
	for _, tail := range tails {
		for _, s := range shapes() {
			asked(t, is, s.word+tail)
		}
		asked(t, is, tail)
	}
}

// TestP102ReadOthersWords: the numbers of one kind behind the word of another.
func TestP102ReadOthersWords(t *testing.T) {
	is := grammar()
	for _, a := range shapes() {
		for n := range 6 {
			asked(t, is, a.word+strings.Repeat(" 7", n))
			for _, b := range shapes() {
				asked(t, is, a.word+strings.Repeat(" 7", n)+" "+b.word)
				asked(t, is, a.word+b.word+strings.Repeat(" 7", n))
			}
		}
	}
}

// TestP102ReadLong: a text far longer than a line ends, and is none.
func TestP102ReadLong(t *testing.T) {
	for _, c := range []string{" ", "0", "1", "-", "e", "\xff", " 1"} {
		long := strings.Repeat(c, 1<<20)
		for _, s := range shapes() {
			none(t, long+s.word)
			none(t, s.word+long)
			none(t, s.word+" "+long)
		}
		none(t, long)
	}
}

// TestP103LineThenRead: each kind, with numbers of all lengths: its line is read of it as itself, and is what the document says.
func TestP103LineThenRead(t *testing.T) {
	for _, s := range shapes() {
		numbers := wide()
		if len(s.names) > 2 {
			numbers = some()
		}
		rows(len(s.names), numbers, func(row []int) {
			x := of(s, row...)
			lined(t, x, line(s, row...))
			read(t, line(s, row...), x)
		})
	}
}

// TestP103ReadThenLine: whatever text is read has the line that it was; of two texts that are no two are read as one.
func TestP103ReadThenLine(t *testing.T) {
	seen := map[api.Ins]string{}
	for _, s := range shapes() {
		rows(len(s.names), []int{-11, -10, -9, -1, 0, 1, 9, 10, 11, 100}, func(row []int) {
			text := line(s, row...)
			x, e := ins.Read(text)
			if e != api.OK {
				t.Fatalf("Read(%q) is %v", text, e)
			}
			if other, is := seen[x]; is {
				t.Fatalf("%q and %q are both read as %+v", text, other, x)
			}
			seen[x] = text
			lined(t, x, text)
		})
	}
}

// TestP103WhatMayBeHasALine: all that Check lets be has a line, and nothing that has none may be.
func TestP103WhatMayBeHasALine(t *testing.T) {
	n := size{2, 2, 2, 2}
	for op := range 13 {
		rows(len(fields), []int{-2, -1, 0, 1, 2, 7, 8}, func(row []int) {
			x := api.Ins{Op: uint8(op), A: row[0], B: row[1], Ch: row[2], K: int64(row[3])}
			s, e := ins.Line(x)
			if e == api.OK {
				read(t, s, x)
			} else {
				lined(t, x, "")
			}
			if is := ins.Check(x, n.chans, n.sites, n.codes, n.length); is == api.OK && e != api.OK {
				t.Fatalf("Check(%+v) is OK, Line is %v", x, e)
			}
		})
	}
}

// TestSameAgain: what was asked ahead changes no answer (R6).
func TestSameAgain(t *testing.T) {
	is := grammar()
	for range 20 {
		for _, s := range good() {
			asked(t, is, s)
			none(t, s+" ")
		}
	}
}
