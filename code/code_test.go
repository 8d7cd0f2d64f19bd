package code_test

import (
	"encoding/binary"
	"math"
	"slices"
	"strings"
	"testing"

	"tollbar/api"
	"tollbar/code"
	"tollbar/prog"
	"tollbar/sample"
)

var end = api.Ins{Op: api.OpEnd}

// named is what each Op names, by chapter 10: A, B, the channel, K.
func named(op uint8) string {
	return []string{"", "ak", "ab", "k", "ak", "ac", "abc", "c", "bk", "k", ""}[op%11]
}

// written is the bytes of p by the chapter's words, without the package; also of many a program that may not be.
func written(p api.Program) string {
	var b []byte
	num := func(v int) { b = binary.AppendUvarint(b, uint64(v)) }
	flag := func(is bool) {
		if is {
			num(1)
		} else {
			num(0)
		}
	}
	num(len(p.Caps))
	for _, n := range p.Caps {
		num(n)
	}
	num(len(p.Sites))
	for _, s := range p.Sites {
		flag(s.Default)
		num(len(s.Cases))
		for _, x := range s.Cases {
			flag(x.Send)
			num(x.Ch + 1)
			num(x.Val)
			num(x.Ok)
		}
	}
	num(len(p.Codes))
	for _, c := range p.Codes {
		num(len(c))
		for _, x := range c {
			num(int(x.Op))
			for _, f := range named(x.Op) {
				switch f {
				case 'a':
					num(x.A)
				case 'b':
					num(x.B)
				case 'c':
					num(x.Ch + 1)
				case 'k':
					b = binary.AppendVarint(b, x.K)
				}
			}
		}
	}
	return string(b)
}

// scan reads numbers, without the package, and goes on with zeros once something is wrong, or wanting.
type scan struct {
	s          string
	bad, short bool
}

func (c *scan) wide() uint64 {
	v, n := binary.Uvarint([]byte(c.s[:min(len(c.s), 10)]))
	c.short = c.short || !c.bad && n == 0 && len(c.s) < 10
	if c.bad = c.bad || n <= 0 || len(binary.AppendUvarint(nil, v)) != n; c.bad {
		return 0
	}
	c.s = c.s[n:]
	return v
}

func (c *scan) below(n int) int {
	v := c.wide()
	if c.bad = c.bad || v >= uint64(n); c.bad {
		return 0
	}
	return int(v)
}

func (c *scan) signed() int64 {
	v := c.wide()
	if v&1 == 1 {
		return ^int64(v >> 1)
	}
	return int64(v >> 1)
}

// read is what Get must answer, by the chapter's words.
func read(s string) (p api.Program, rest string, ok bool) {
	p, c := reading(s)
	if _, _, e := prog.Check(p); c.bad || e != api.OK {
		return api.Program{}, "", false
	}
	return p, c.s, true
}

// reading reads a program, whether it may be or not, as far as there is one.
func reading(s string) (p api.Program, c scan) {
	c.s = s
	const any = 1 << 20
	for range c.below(7) {
		p.Caps = append(p.Caps, c.below(any))
	}
	for range c.below(13) {
		x := api.Site{Default: c.below(2) == 1}
		for range c.below(7) {
			y := api.Case{Send: c.below(2) == 1}
			y.Ch = c.below(any) - 1
			y.Val = c.below(any)
			y.Ok = c.below(any)
			x.Cases = append(x.Cases, y)
		}
		p.Sites = append(p.Sites, x)
	}
	for range c.below(9) {
		var l []api.Ins
		for range c.below(41) {
			x := api.Ins{Op: uint8(c.below(11))}
			for _, f := range named(x.Op) {
				switch f {
				case 'a':
					x.A = c.below(any)
				case 'b':
					x.B = c.below(any)
				case 'c':
					x.Ch = c.below(any) - 1
				case 'k':
					x.K = c.signed()
				}
			}
			l = append(l, x)
		}
		p.Codes = append(p.Codes, l)
	}
	return p, c
}

// none is whether p is zero.
func none(p api.Program) bool { return len(p.Caps) == 0 && len(p.Sites) == 0 && len(p.Codes) == 0 }

// put answers the bytes of p; it fails, unless they are as the chapter has them, Size tells how many, and p is as it was.
func put(t *testing.T, p api.Program) string {
	t.Helper()
	before := prog.Copy(p)
	s, e := code.Put(p)
	if want := written(before); s != want || e != api.OK {
		t.Fatalf("Put(%+v) is %q, %v, not %q", p, s, e, want)
	}
	if n := code.Size(p); n != len(s) {
		t.Fatalf("Size(%+v) is %d, not %d", p, n, len(s))
	}
	if !prog.Same(p, before) {
		t.Fatalf("Put or Size has changed %+v to %+v", before, p)
	}
	return s
}

// unput fails, unless p is told to be one that may not be.
func unput(t *testing.T, p api.Program) {
	t.Helper()
	before := prog.Copy(p)
	if s, e := code.Put(p); s != "" || e != api.ErrArg {
		t.Fatalf("Put(%+v) is %q, %v", p, s, e)
	}
	if n := code.Size(p); n != 0 {
		t.Fatalf("Size(%+v) is %d", p, n)
	}
	if !prog.Same(p, before) {
		t.Fatalf("Put or Size has changed %+v to %+v", before, p)
	}
}

// got fails, unless s begins with p, behind which that stands.
func got(t *testing.T, s string, p api.Program, behind string) {
	t.Helper()
	q, rest, e := code.Get(s)
	if !prog.Same(p, q) || rest != behind || e != api.OK {
		t.Fatalf("Get(%q) is %+v, %q, %v, not %+v, %q", s, q, rest, e, p, behind)
	}
}

// ungot fails, unless s begins with no program, and that alone is told.
func ungot(t *testing.T, s string) {
	t.Helper()
	if q, rest, e := code.Get(s); !none(q) || rest != "" || e != api.ErrForm {
		t.Fatalf("Get(%q) is %+v, %q, %v", s, q, rest, e)
	}
}

// judged fails, unless Get answers of s what it must; it answers whether s begins with a program.
func judged(t *testing.T, s string) bool {
	t.Helper()
	p, rest, ok := read(s)
	if !ok {
		ungot(t, s)
		return false
	}
	got(t, s, p, rest)
	if b := put(t, p); b+rest != s {
		t.Fatalf("%q begins with %+v, which is put as %q", s, p, b)
	}
	return true
}

// both fails, unless p is put as s, and got of it, whatever stands behind.
func both(t *testing.T, p api.Program, s string) {
	t.Helper()
	if b := put(t, p); b != s {
		t.Fatalf("%+v is put as %q, not %q", p, b, s)
	}
	for _, behind := range []string{"", "z", "\x00", "\x80", "\xff\xff", s, s[:len(s)/2], strings.Repeat("\x01", 300), "\xe2\x82\xac"} {
		got(t, s+behind, p, behind)
	}
}

// one is a program of one code, of those instructions and an end.
func one(l ...api.Ins) api.Program { return api.Program{Codes: [][]api.Ins{append(l, end)}} }

// row is one thing so many times.
func row[T any](n int, x T) []T { return slices.Repeat([]T{x}, n) }

// lines is a code of n instructions.
func lines(n int) []api.Ins { return append(row(n-1, api.Ins{Op: api.OpJump}), end) }

// plainBytes are those of sample.Plain, written out.
const plainBytes = "\x03\x00\x08\x03" +
	"\x02" +
	"\x01\x03" + "\x01\x03\x07\x00" + "\x00\x01\x06\x05" + "\x00\x00\x01\x00" +
	"\x00\x01" + "\x00\x03\x00\x07" +
	"\x04" +
	"\x05" + "\x09\x06" + "\x08\x04\x02" + "\x04\x01\x08" + "\x09\x02" + "\x0a" +
	"\x04" + "\x06\x01\x02\x03" + "\x05\x03\x00" + "\x07\x02" + "\x03\x04" +
	"\x03" + "\x01\x07\x8f\x4e" + "\x02\x01\x02" + "\x0a" +
	"\x02" + "\x03\x00" + "\x0a"

// with answers sample.Plain behind do.
func with(do func(p *api.Program)) api.Program {
	p := sample.Plain()
	do(&p)
	return p
}

// TestP121Example: the chapter's.
func TestP121Example(t *testing.T) {
	both(t, one(), "\x00\x00\x01\x01\x0a")
	if n := code.Size(one()); n != 5 {
		t.Fatal(n)
	}
	both(t, sample.Plain(), plainBytes)
	put(t, sample.Full())
}

// TestP121Counts: no channel, site or case, and as many of each as may be.
func TestP121Counts(t *testing.T) {
	for n := range 7 {
		for most := range 9 {
			both(t, api.Program{Caps: row(n, most), Codes: [][]api.Ins{{end}}}, string(rune(n))+strings.Repeat(string(rune(most)), n)+"\x00\x01\x01\x0a")
		}
	}
	both(t, api.Program{Caps: []int{0, 8, 1, 7, 2, 6}, Codes: [][]api.Ins{{end}}}, "\x06\x00\x08\x01\x07\x02\x06\x00\x01\x01\x0a")
	for n := range 13 {
		p := api.Program{Sites: row(n, api.Site{Cases: []api.Case{{Ch: api.NoChan}}}), Codes: [][]api.Ins{{end}}}
		both(t, p, "\x00"+string(rune(n))+strings.Repeat("\x00\x01\x00\x00\x00\x00", n)+"\x01\x01\x0a")
	}
	for n := 1; n <= 6; n++ {
		for _, d := range []bool{false, true} {
			first := "\x00"
			if d {
				first = "\x01"
			}
			p := api.Program{Caps: []int{4}, Sites: []api.Site{{Cases: row(n, api.Case{Val: 3, Ok: 2}), Default: d}}, Codes: [][]api.Ins{{end}}}
			both(t, p, "\x01\x04\x01"+first+string(rune(n))+strings.Repeat("\x00\x01\x03\x02", n)+"\x01\x01\x0a")
		}
	}
	for n := 1; n <= 8; n++ {
		both(t, api.Program{Codes: row(n, []api.Ins{end})}, "\x00\x00"+string(rune(n))+strings.Repeat("\x01\x0a", n))
	}
	for n := 1; n <= 40; n++ {
		both(t, api.Program{Codes: [][]api.Ins{lines(n)}}, "\x00\x00\x01"+string(rune(n))+strings.Repeat("\x03\x00", n-1)+"\x0a")
		both(t, api.Program{Codes: [][]api.Ins{lines(n), lines(41 - n)}}, "\x00\x00\x02"+string(rune(n))+strings.Repeat("\x03\x00", n-1)+"\x0a"+string(rune(41-n))+strings.Repeat("\x03\x00", 40-n)+"\x0a")
	}
}

// TestP121Cases: each case's bytes, with Send and without, on each channel and on none.
func TestP121Cases(t *testing.T) {
	for ch := -1; ch < 6; ch++ {
		for val := range 8 {
			for ok := range 8 {
				p := api.Program{Caps: row(6, 0), Sites: []api.Site{{Cases: []api.Case{{Ch: ch, Val: val, Ok: ok}}}}, Codes: [][]api.Ins{{end}}}
				both(t, p, "\x06\x00\x00\x00\x00\x00\x00\x01\x00\x01"+string([]byte{0, byte(ch + 1), byte(val), byte(ok)})+"\x01\x01\x0a")
			}
			p := api.Program{Caps: row(6, 0), Sites: []api.Site{{Cases: []api.Case{{Send: true, Ch: ch, Val: val}}, Default: true}}, Codes: [][]api.Ins{{end}}}
			both(t, p, "\x06\x00\x00\x00\x00\x00\x00\x01\x01\x01"+string([]byte{1, byte(ch + 1), byte(val), 0})+"\x01\x01\x0a")
		}
	}
}

// TestP121Instructions: the bytes of each Op, in a program of 6 channels, 12 sites and 8 codes, in a code of 40 instructions.
func TestP121Instructions(t *testing.T) {
	base := sample.Full()
	for _, c := range []struct {
		x api.Ins
		s string
	}{
		{api.Ins{Op: api.OpSet}, "\x01\x00\x00"},
		{api.Ins{Op: api.OpSet, A: 7, K: 1}, "\x01\x07\x02"},
		{api.Ins{Op: api.OpSet, A: 3, K: -1}, "\x01\x03\x01"},
		{api.Ins{Op: api.OpSet, A: 1, K: 63}, "\x01\x01\x7e"},
		{api.Ins{Op: api.OpSet, A: 1, K: 64}, "\x01\x01\x80\x01"},
		{api.Ins{Op: api.OpSet, A: 1, K: -64}, "\x01\x01\x7f"},
		{api.Ins{Op: api.OpSet, A: 1, K: -65}, "\x01\x01\x81\x01"},
		{api.Ins{Op: api.OpSet, A: 3, K: -100}, "\x01\x03\xc7\x01"},
		{api.Ins{Op: api.OpSet, A: 2, K: math.MaxInt64}, "\x01\x02\xfe\xff\xff\xff\xff\xff\xff\xff\xff\x01"},
		{api.Ins{Op: api.OpSet, A: 2, K: math.MinInt64}, "\x01\x02\xff\xff\xff\xff\xff\xff\xff\xff\xff\x01"},
		{api.Ins{Op: api.OpAdd}, "\x02\x00\x00"},
		{api.Ins{Op: api.OpAdd, A: 6, B: 7}, "\x02\x06\x07"},
		{api.Ins{Op: api.OpAdd, A: 7, B: 1}, "\x02\x07\x01"},
		{api.Ins{Op: api.OpJump}, "\x03\x00"},
		{api.Ins{Op: api.OpJump, K: 39}, "\x03\x4e"},
		{api.Ins{Op: api.OpZero}, "\x04\x00\x00"},
		{api.Ins{Op: api.OpZero, A: 7, K: 39}, "\x04\x07\x4e"},
		{api.Ins{Op: api.OpSend}, "\x05\x00\x01"},
		{api.Ins{Op: api.OpSend, A: 7, Ch: 5}, "\x05\x07\x06"},
		{api.Ins{Op: api.OpSend, A: 4, Ch: api.NoChan}, "\x05\x04\x00"},
		{api.Ins{Op: api.OpRecv}, "\x06\x00\x00\x01"},
		{api.Ins{Op: api.OpRecv, A: 7, B: 1, Ch: 5}, "\x06\x07\x01\x06"},
		{api.Ins{Op: api.OpRecv, A: 1, B: 7, Ch: api.NoChan}, "\x06\x01\x07\x00"},
		{api.Ins{Op: api.OpClose}, "\x07\x01"},
		{api.Ins{Op: api.OpClose, Ch: 5}, "\x07\x06"},
		{api.Ins{Op: api.OpClose, Ch: api.NoChan}, "\x07\x00"},
		{api.Ins{Op: api.OpSelect}, "\x08\x00\x00"},
		{api.Ins{Op: api.OpSelect, B: 7, K: 11}, "\x08\x07\x16"},
		{api.Ins{Op: api.OpSpawn}, "\x09\x00"},
		{api.Ins{Op: api.OpSpawn, K: 7}, "\x09\x0e"},
		{end, "\x0a"},
	} {
		p := prog.Copy(base)
		s := put(t, p)
		p.Codes[7][38] = c.x
		last, old := "\x03\x4e", "\x06\x07\x07\x06" // the jump at the end of the last code, and what stood ahead of it
		both(t, p, strings.TrimSuffix(s, old+last)+c.s+last)
		p.Codes[0][4] = c.x
		judged(t, put(t, p)+"\x00")
	}
}

// TestP121Wrong: programs that may not be, each for one reason alone.
func TestP121Wrong(t *testing.T) {
	unput(t, api.Program{})
	unput(t, api.Program{Codes: [][]api.Ins{}})
	unput(t, api.Program{Codes: [][]api.Ins{nil}})
	unput(t, api.Program{Codes: [][]api.Ins{{}, {end}}})
	unput(t, api.Program{Codes: [][]api.Ins{{{}}}})
	unput(t, api.Program{Codes: [][]api.Ins{{{Op: api.OpSet}}}})
	unput(t, api.Program{Codes: [][]api.Ins{lines(41)}})
	unput(t, api.Program{Codes: row(9, []api.Ins{end})})
	unput(t, api.Program{Codes: row(1<<16, lines(40))})
	for _, v := range []int{-2, -1, 9, 10, 127, 128, 256, 264, 1 << 32, 1<<32 + 8, math.MaxInt, math.MinInt} {
		unput(t, with(func(p *api.Program) { p.Caps[1] = v }))
		unput(t, with(func(p *api.Program) { p.Sites[0].Cases[1].Val = v }))
		unput(t, with(func(p *api.Program) { p.Sites[0].Cases[1].Ok = v }))
		unput(t, with(func(p *api.Program) { p.Codes[2][0].A = v }))
		unput(t, with(func(p *api.Program) { p.Codes[0][1].B = v }))
		unput(t, with(func(p *api.Program) { p.Codes[0][1].K = int64(v) }))
		unput(t, with(func(p *api.Program) { p.Codes[1][3].K = int64(v) }))
		unput(t, with(func(p *api.Program) { p.Codes[0][0].K = int64(v) }))
		if v == api.NoChan {
			continue
		}
		unput(t, with(func(p *api.Program) { p.Sites[0].Cases[1].Ch = v }))
		unput(t, with(func(p *api.Program) { p.Codes[1][0].Ch = v }))
		unput(t, with(func(p *api.Program) { p.Codes[1][1].Ch = v }))
		unput(t, with(func(p *api.Program) { p.Codes[1][2].Ch = v }))
	}
	for op := range 256 {
		if op == 0 || op > 10 {
			unput(t, with(func(p *api.Program) { p.Codes[2][1] = api.Ins{Op: uint8(op)} }))
		}
	}
	unput(t, with(func(p *api.Program) { p.Caps = row(7, 1) }))
	unput(t, with(func(p *api.Program) { p.Sites = row(13, p.Sites[0]) }))
	unput(t, with(func(p *api.Program) { p.Sites[1].Cases = row(7, p.Sites[1].Cases[0]) }))
	unput(t, with(func(p *api.Program) { p.Sites[1].Cases = nil }))
	unput(t, with(func(p *api.Program) { p.Sites[0].Cases[0].Ok = 1 })) // it sends
	unput(t, with(func(p *api.Program) { p.Codes[2][2].A = 1 }))        // an end names nothing
	unput(t, with(func(p *api.Program) { p.Codes[2][1].K = 1 }))
	unput(t, with(func(p *api.Program) { p.Codes[1][2].A = 1 }))
	unput(t, with(func(p *api.Program) { p.Codes[1][1].B = 1 }))
	unput(t, with(func(p *api.Program) { p.Codes[0][0].Ch = 1 }))
	unput(t, with(func(p *api.Program) { p.Caps = p.Caps[:2] })) // what names the last channel is left
	unput(t, with(func(p *api.Program) { p.Sites = p.Sites[:1] }))
	unput(t, with(func(p *api.Program) { p.Codes = p.Codes[:3] }))
}

// TestP122Cut: at each place, also in the midst of a number.
func TestP122Cut(t *testing.T) {
	for _, p := range []api.Program{one(), sample.Plain(), sample.Full(), sample.Made(1), sample.Made(2), sample.Made(3)} {
		s := put(t, p)
		for n := range len(s) {
			ungot(t, s[:n])
			ungot(t, s[:n]+"\x80")
		}
		got(t, s, p, "")
	}
	ungot(t, "")
}

// TestP122Counts: more than may be, each of which is there as it should.
func TestP122Counts(t *testing.T) {
	for n := range 300 {
		check := func(p api.Program, may bool) {
			t.Helper()
			if s := written(p); may {
				got(t, s+"z", p, "z")
			} else {
				ungot(t, s+"z")
				ungot(t, s)
			}
		}
		check(api.Program{Caps: row(n, 1), Codes: [][]api.Ins{{end}}}, n <= 6)
		check(api.Program{Sites: row(n, api.Site{Cases: []api.Case{{Ch: -1}}}), Codes: [][]api.Ins{{end}}}, n <= 12)
		check(api.Program{Sites: []api.Site{{Cases: row(n, api.Case{Ch: -1})}}, Codes: [][]api.Ins{{end}}}, n >= 1 && n <= 6)
		check(api.Program{Codes: row(n, []api.Ins{end})}, n >= 1 && n <= 8)
		check(api.Program{Codes: [][]api.Ins{row(n, end)}}, n >= 1 && n <= 40)
	}
}

// far are the bytes of numbers that no row could be as long as, and that are nothing that is named; many have the low bits of one that is.
func far() (l []string) {
	for _, v := range []uint64{129, 255, 256, 257, 258, 266, 1 << 16, 1<<16 + 1, 1 << 31, 1<<31 + 1, 1 << 32, 1<<32 + 1, 1<<32 + 10, 1 << 62, 1<<63 - 1, 1 << 63, 1<<63 + 1, math.MaxUint64 - 1, math.MaxUint64} {
		l = append(l, string(binary.AppendUvarint(nil, v)))
	}
	return l
}

// unread are bytes that no number has.
func unread() []string {
	return []string{"\x80\x00", "\x81\x00", "\x82\x00", "\x8a\x00", "\x80\x80\x00", "\x81\x80\x80\x00", "\x80\x80\x80\x80\x80\x80\x80\x80\x80\x02", "\x81\x80\x80\x80\x80\x80\x80\x80\x80\x80", "\xff\xff\xff\xff\xff\xff\xff\xff\xff\xff\x01", strings.Repeat("\x80", 3000) + "\x01"}
}

// TestP122Numbers: at each place where a number stands, one that is far outside, or none in the form of layer 1.
func TestP122Numbers(t *testing.T) {
	for _, p := range []api.Program{one(), sample.Plain()} {
		s := put(t, p)
		for at := 0; at < len(s); {
			n := 1
			for s[at+n-1] >= 0x80 {
				n++
			}
			for _, x := range unread() {
				ungot(t, s[:at]+x+s[at+n:])
				ungot(t, s[:at]+x)
			}
			for _, x := range far() {
				judged(t, s[:at]+x+s[at+n:]) // it may be what is set
				judged(t, s[:at]+x)
			}
			at += n
		}
	}
}

// TestP122Written: what is wrong at each place of a small program, by name.
func TestP122Written(t *testing.T) {
	whole := []string{"\x01", "\x04", "\x01", "\x00", "\x01", "\x00", "\x01", "\x03", "\x02", "\x01", "\x03", "\x05", "\x02", "\x01", "\x08", "\x01", "\x00", "\x0a"}
	most := []byte{6, 8, 12, 1, 6, 1, 1, 7, 7, 8, 40, 10, 7, 1, 10, 7, 0, 10} // of that place, by its limit or by how many there are
	got(t, strings.Join(whole, ""), api.Program{
		Caps:  []int{4},
		Sites: []api.Site{{Cases: []api.Case{{Ch: 0, Val: 3, Ok: 2}}}},
		Codes: [][]api.Ins{{{Op: api.OpSend, A: 2, Ch: 0}, {Op: api.OpSelect, B: 1}, end}},
	}, "")
	for k := range whole {
		l := slices.Clone(whole)
		for v := range 128 {
			l[k] = string(rune(v))
			if is := judged(t, strings.Join(l, "")); is && byte(v) > most[k] {
				t.Fatalf("%q is a program, with %d at %d", l, v, k)
			}
		}
		for _, x := range far() {
			l[k] = x
			ungot(t, strings.Join(l, ""))
		}
	}
	for v := range 300 { // a flag is 0 or 1
		x := string(binary.AppendUvarint(nil, uint64(v)))
		for _, s := range []string{"\x01\x00\x01" + x + "\x01\x00\x01\x00\x00\x01\x01\x0a", "\x01\x00\x01\x00\x01" + x + "\x01\x00\x00\x01\x01\x0a"} {
			if is := judged(t, s); is != (v < 2) {
				t.Fatalf("%q: %v", s, is)
			}
		}
	}
	ungot(t, "\x01\x00\x01\x00\x01\x01\x01\x00\x01\x01\x01\x0a") // a case that sends, with an Ok
	ungot(t, "\x00\x00\x01\x01\x01\x00\x00")                     // a code that is left at its end
	ungot(t, "\x00\x00\x01\x01\x03\x01")                         // to the place -1
	ungot(t, "\x00\x00\x01\x01\x03\x02")                         // to the place 1, of one
	ungot(t, "\x00\x00\x01\x02\x09\x02\x0a")                     // the code 1, of one
	ungot(t, "\x00\x00\x01\x02\x08\x00\x00\x0a")                 // the site 0, of none
	ungot(t, "\x00\x00\x01\x02\x07\x01\x0a")                     // the channel 0, of none
	ungot(t, "\x00\x00\x00")                                     // no code
	ungot(t, "\x00\x00\x01\x00")                                 // no instruction
	ungot(t, "\x00\x01\x00\x00\x01\x01\x0a")                     // no case
	ungot(t, "\x00\x00\x01\x01\x00")                             // no Op
	ungot(t, "\x00\x00\x01\x02\x00\x0a")
	ungot(t, "\x00\x00\x01\x01\x0b")
}

// TestP122Near: all strings that are one byte from a program's.
func TestP122Near(t *testing.T) {
	for _, p := range []api.Program{one(), sample.Plain()} {
		s, are := put(t, p), 0
		for at := range len(s) + 1 {
			for v := range 256 {
				if judged(t, s[:at]+string([]byte{byte(v)})+s[at:]) {
					are++
				}
				if at < len(s) && judged(t, s[:at]+string([]byte{byte(v)})+s[at+1:]) {
					are++
				}
			}
			if at < len(s) {
				judged(t, s[:at]+s[at+1:])
			}
		}
		if are < 256 {
			t.Fatalf("%d are", are)
		}
	}
}

// TestP122All: all strings of few bytes, that could still begin a program as long as they are not one.
func TestP122All(t *testing.T) {
	are := map[int]int{}
	var grow func(s string, few []byte, left int)
	grow = func(s string, few []byte, left int) {
		if judged(t, s) {
			are[len(s)]++
			return // whatever stands behind is seen elsewhere
		}
		if _, c := reading(s); !c.short || left == 0 {
			return
		}
		for _, b := range few {
			grow(s+string([]byte{b}), few, left-1)
		}
	}
	grow("", []byte{0, 1, 2, 3, 10, 11, 0x80}, 6)
	grow("", []byte{0, 1, 3, 10}, 8)
	grow("\x00\x00\x01", []byte{0, 1, 2, 3, 4, 5, 6, 7, 8, 9, 10, 11, 0x80}, 4)
	grow("\x01\x00\x01\x01\x01", []byte{0, 1, 2, 10}, 7)
	if are[5] == 0 || are[6] == 0 || are[7] == 0 || are[8] < 20 || are[12] < 20 {
		t.Fatal(are)
	}
}

// TestP122Whatever: bytes of which nothing is known.
func TestP122Whatever(t *testing.T) {
	are := 0
	for n := range 60000 {
		var b, low []byte
		for k := range int(sample.Mix(n) >> 9 % 60) {
			v := sample.Mix(n*61 + k)
			b, low = append(b, byte(v>>20)>>(v%7)), append(low, byte(v>>20)%11)
		}
		judged(t, string(b))
		for _, head := range []string{"", "\x00\x00\x01\x03", "\x01\x02\x01\x00\x01"} {
			if judged(t, head+string(low)) {
				are++
			}
		}
	}
	if are < 200 {
		t.Fatalf("%d are", are)
	}
	for _, s := range []string{strings.Repeat("\x00", 1<<20), strings.Repeat("\x01", 1<<20), strings.Repeat("\x80", 1<<20), strings.Repeat("\xff", 1<<20), "\x00\x00\x08" + strings.Repeat("\x28", 1<<20)} {
		ungot(t, s)
	}
}

// TestP122Long: what stands behind may be long.
func TestP122Long(t *testing.T) {
	behind := strings.Repeat("\x80", 1<<22)
	got(t, plainBytes+behind, sample.Plain(), behind)
	got(t, plainBytes+plainBytes, sample.Plain(), plainBytes)
}

// variants are programs that may be, no two of which are the same.
func variants() []api.Program {
	l := []api.Program{one(), sample.Plain(), sample.Full(), one(end), one(end, end)}
	add := func(do func(p *api.Program)) { l = append(l, with(do)) }
	add(func(p *api.Program) { p.Caps[0], p.Caps[1] = p.Caps[1], p.Caps[0] })
	add(func(p *api.Program) { p.Sites[0], p.Sites[1] = p.Sites[1], p.Sites[0] })
	add(func(p *api.Program) { p.Codes[0], p.Codes[2] = p.Codes[2], p.Codes[0] })
	add(func(p *api.Program) { p.Caps = append(p.Caps, 0) })
	add(func(p *api.Program) { p.Sites = append(p.Sites, p.Sites[1]) })
	add(func(p *api.Program) { p.Codes = append(p.Codes, p.Codes[3]) })
	for k, s := range sample.Plain().Sites {
		add(func(p *api.Program) { p.Sites[k].Default = !p.Sites[k].Default })
		for i, x := range s.Cases {
			for v := -1; v < 8; v++ {
				if v < 3 && v != x.Ch {
					add(func(p *api.Program) { p.Sites[k].Cases[i].Ch = v })
				}
				if v >= 0 && v != x.Val {
					add(func(p *api.Program) { p.Sites[k].Cases[i].Val = v })
				}
				if v >= 0 && v != x.Ok && !x.Send {
					add(func(p *api.Program) { p.Sites[k].Cases[i].Ok = v })
				}
			}
			if x.Ok == 0 {
				add(func(p *api.Program) { p.Sites[k].Cases[i].Send = !x.Send })
			}
		}
	}
	for ch, n := range sample.Plain().Caps {
		for v := range 9 {
			if v != n {
				add(func(p *api.Program) { p.Caps[ch] = v })
			}
		}
	}
	for _, v := range []int64{0, 1, -1, 63, 64, -64, -65, 5000, 1 << 32, 1 << 62, math.MaxInt64, math.MinInt64} {
		add(func(p *api.Program) { p.Codes[2][0].K = v })
	}
	for k, c := range sample.Plain().Codes {
		for pc, x := range c {
			for v := -1; v < 8; v++ {
				for _, y := range []api.Ins{{Op: x.Op, A: v, B: x.B, Ch: x.Ch, K: x.K}, {Op: x.Op, A: x.A, B: v, Ch: x.Ch, K: x.K}, {Op: x.Op, A: x.A, B: x.B, Ch: v, K: x.K}} {
					p := with(func(p *api.Program) { p.Codes[k][pc] = y })
					if _, _, e := prog.Check(p); y != x && e == api.OK {
						l = append(l, p)
					}
				}
			}
		}
	}
	return l
}

// TestP123Apart: two programs have the same bytes just if they are the same, and no one's begin with another one's.
func TestP123Apart(t *testing.T) {
	l := variants()
	for n := range 300 {
		l = append(l, sample.Made(n))
	}
	if len(l) < 450 {
		t.Fatalf("%d programs", len(l))
	}
	var bytes []string
	for _, p := range l {
		bytes = append(bytes, put(t, p))
	}
	for i, s := range bytes {
		for k, b := range bytes {
			if prog.Same(l[i], l[k]) != (s == b) {
				t.Fatalf("%+v and %+v have %q and %q", l[i], l[k], s, b)
			}
			if s != b && strings.HasPrefix(s, b) {
				t.Fatalf("%q begins with %q", s, b)
			}
		}
	}
}

// TestP123Begins: of the bytes of many programs, sorted, none begin the next ones.
func TestP123Begins(t *testing.T) {
	var l []string
	for n := range 5000 {
		l = append(l, put(t, sample.Made(n)))
	}
	slices.Sort(l)
	l = slices.Compact(l)
	for k := 1; k < len(l); k++ {
		if strings.HasPrefix(l[k], l[k-1]) {
			t.Fatalf("%q begins with %q", l[k], l[k-1])
		}
	}
}

// TestP123Around: what was put is got, whatever stands behind it; a few, one behind the other, too.
func TestP123Around(t *testing.T) {
	for n := range 600 {
		both(t, sample.Made(n), written(sample.Made(n)))
	}
	for n := range 300 {
		var s string
		for k := range 5 {
			s += put(t, sample.Made(n+k))
		}
		for k := range 5 {
			p, rest, e := code.Get(s)
			if !prog.Same(p, sample.Made(n+k)) || e != api.OK {
				t.Fatalf("%d of %d: %+v, %v", k, n, p, e)
			}
			s = rest
		}
		if s != "" {
			t.Fatalf("%q is left", s)
		}
	}
}

// TestR4None: a list that is nil, and one without elements, have the same bytes.
func TestR4None(t *testing.T) {
	both(t, api.Program{Caps: []int{}, Sites: []api.Site{}, Codes: [][]api.Ins{{end}}}, "\x00\x00\x01\x01\x0a")
	unput(t, api.Program{Caps: []int{}, Sites: []api.Site{}, Codes: [][]api.Ins{{}}})
	unput(t, api.Program{Sites: []api.Site{{Cases: []api.Case{}}}, Codes: [][]api.Ins{{end}}})
}

// TestR5New: what is got is new memory, each list of it, with room of its own behind it.
func TestR5New(t *testing.T) {
	for _, p := range []api.Program{sample.Plain(), sample.Full(), sample.Made(7)} {
		s := put(t, p)
		q, _, _ := code.Get(s)
		r, _, _ := code.Get(s)
		for k, c := range q.Codes { // whatever shares memory is written over, by itself or by what is put behind it
			q.Codes[k] = append(c, api.Ins{K: int64(k)})
		}
		for k, x := range q.Sites {
			q.Sites[k].Cases = append(x.Cases, api.Case{Val: k})
		}
		for k, c := range q.Codes {
			if last := len(c) - 1; !slices.Equal(c[:last], p.Codes[k]) || c[last].K != int64(k) {
				t.Fatalf("of %q the code %d is %v", s, k, c)
			}
			clear(c)
		}
		for k, x := range q.Sites {
			if last := len(x.Cases) - 1; !slices.Equal(x.Cases[:last], p.Sites[k].Cases) || x.Cases[last].Val != k {
				t.Fatalf("of %q the site %d is %v", s, k, x)
			}
			clear(x.Cases)
		}
		clear(q.Codes)
		clear(q.Sites)
		clear(q.Caps)
		if !prog.Same(r, p) {
			t.Fatalf("%q is got in common", s)
		}
		got(t, s, p, "")
	}
}

// TestSameAgain: nothing is kept from call to call.
func TestSameAgain(t *testing.T) {
	for n := range 50 {
		s := put(t, sample.Made(n))
		p, _, _ := code.Get(s + "z")
		for k := range p.Codes { // what is got is one's own
			p.Codes[k] = nil
		}
		ungot(t, s[:len(s)-1])
		unput(t, p)
		got(t, s+"z", sample.Made(n), "z")
		if put(t, sample.Made(n)) != s {
			t.Fatalf("%q is put otherwise", s)
		}
	}
}
