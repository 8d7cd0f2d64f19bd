package octet_test

import (
	"math"
	"math/big"
	"slices"
	"strings"
	"testing"

	"tollbar/api"
	"tollbar/octet"
)

// edges are numbers on both sides of where a byte more is needed, and some between.
func edges() []uint64 {
	l := []uint64{0, 1, 2, 5, 300, 4096, 4097, 123456789, math.MaxInt64, math.MaxInt64 + 1, math.MaxUint64 - 1, math.MaxUint64}
	for k := 1; k < 10; k++ {
		p := uint64(1) << (7 * k)
		l = append(l, p-1, p, p+1)
	}
	slices.Sort(l)
	return slices.Compact(l)
}

// signed are numbers with a sign, likewise.
func signed() []int64 {
	l := []int64{math.MinInt64, math.MinInt64 + 1, math.MaxInt64 - 1, math.MaxInt64}
	for _, v := range edges() {
		l = append(l, int64(v>>1), -int64(v>>1), -int64(v>>1)-1)
	}
	slices.Sort(l)
	return slices.Compact(l)
}

// tails stand behind what is read; the last ones begin as bytes that are none.
func tails() []string {
	return []string{"", "\x00", "\x01", "\x7f", "\x80", "\xff\xff", "\x80\x00", strings.Repeat("\xff", 12)}
}

// unread are bytes that no number begins, with the error they ask for.
func unread() map[string]api.Errno {
	m := map[string]api.Errno{"": api.ErrEnd}
	for n := 1; n <= 9; n++ {
		for _, b := range []string{"\x80", "\x81", "\xff"} {
			head := strings.Repeat(b, n)
			m[head] = api.ErrEnd
			m[head+"\x00"] = api.ErrForm
			m[head+"\x00\x05"] = api.ErrForm
		}
	}
	nine := strings.Repeat("\xff", 9)
	for b := 2; b < 256; b++ {
		m[nine+string([]byte{byte(b)})] = api.ErrForm
		m[nine+string([]byte{byte(b), 1})] = api.ErrForm
	}
	m[strings.Repeat("\x80", 9)+"\x02"] = api.ErrForm
	m[strings.Repeat("\xff", 10)+"\x00"] = api.ErrForm
	return m
}

// slow reads a number as the document's words tell it, by big numbers.
func slow(s string) (v uint64, rest string, e api.Errno) {
	end := strings.IndexFunc(s, func(r rune) bool { return r < 128 })
	if end < 0 || end > 9 {
		if len(s) <= 9 {
			return 0, "", api.ErrEnd
		}
		return 0, "", api.ErrForm
	}
	if end > 0 && s[end] == 0 {
		return 0, "", api.ErrForm
	}
	sum := new(big.Int)
	for i := end; i >= 0; i-- {
		sum.Mul(sum, big.NewInt(128))
		sum.Add(sum, big.NewInt(int64(s[i]%128)))
	}
	if !sum.IsUint64() {
		return 0, "", api.ErrForm
	}
	return sum.Uint64(), s[end+1:], api.OK
}

func TestP11NumBytes(t *testing.T) {
	for v, s := range map[uint64]string{
		0:                  "\x00",
		1:                  "\x01",
		127:                "\x7f",
		128:                "\x80\x01",
		129:                "\x81\x01",
		300:                "\xac\x02",
		16383:              "\xff\x7f",
		16384:              "\x80\x80\x01",
		math.MaxUint32:     "\xff\xff\xff\xff\x0f",
		1<<63 - 1:          "\xff\xff\xff\xff\xff\xff\xff\xff\x7f",
		1 << 63:            "\x80\x80\x80\x80\x80\x80\x80\x80\x80\x01",
		math.MaxUint64:     "\xff\xff\xff\xff\xff\xff\xff\xff\xff\x01",
		math.MaxUint64 - 1: "\xfe\xff\xff\xff\xff\xff\xff\xff\xff\x01",
	} {
		if got := octet.Num(v); got != s {
			t.Errorf("Num(%d) is %q, not %q", v, got, s)
		}
	}
}

func TestP11NumShort(t *testing.T) {
	for _, v := range edges() {
		s := octet.Num(v)
		n := 1
		for u := v >> 7; u > 0; u >>= 7 {
			n++
		}
		if len(s) != n {
			t.Errorf("Num(%d) has %d bytes, not %d", v, len(s), n)
		}
		for i := range len(s) {
			if s[i] >= 128 != (i < len(s)-1) {
				t.Errorf("Num(%d) is %q: bit 7 of byte %d", v, s, i)
			}
		}
	}
}

func TestP11Get(t *testing.T) {
	for _, v := range edges() {
		for _, tail := range tails() {
			got, rest, e := octet.Get(octet.Num(v) + tail)
			if got != v || rest != tail || e != api.OK {
				t.Errorf("Get of %d with %q behind it: %d %q %v", v, tail, got, rest, e)
			}
		}
	}
	if v, rest, e := octet.Get("\xac\x02\x09"); v != 300 || rest != "\x09" || e != api.OK {
		t.Error(v, rest, e)
	}
}

func TestP11GetWrong(t *testing.T) {
	for s, want := range unread() {
		if v, rest, e := octet.Get(s); v != 0 || rest != "" || e != want {
			t.Errorf("Get(%q): %d %q %v, not %v", s, v, rest, e, want)
		}
	}
}

// same holds Get against slow.
func same(t *testing.T, s string) {
	t.Helper()
	v, rest, e := octet.Get(s)
	if w, r, f := slow(s); v != w || rest != r || e != f {
		t.Errorf("Get(%q): %d %q %v, not %d %q %v", s, v, rest, e, w, r, f)
	}
}

func TestP11GetAllShort(t *testing.T) {
	for a := range 256 {
		same(t, string([]byte{byte(a)}))
		for b := range 256 {
			same(t, string([]byte{byte(a), byte(b)}))
		}
	}
	some := []byte{0, 1, 2, 127, 128, 129, 255}
	for n := 7; n <= 12; n++ {
		for i := range len(some) * len(some) * len(some) {
			s := strings.Repeat("\xd5", n-3) + string([]byte{some[i%7], some[i/7%7], some[i/49]})
			same(t, s)
		}
	}
}

func TestP12Int(t *testing.T) {
	for v, s := range map[int64]string{
		0:                 "\x00",
		-1:                "\x01",
		1:                 "\x02",
		-2:                "\x03",
		63:                "\x7e",
		-64:               "\x7f",
		64:                "\x80\x01",
		-65:               "\x81\x01",
		math.MaxInt64:     "\xfe\xff\xff\xff\xff\xff\xff\xff\xff\x01",
		math.MinInt64:     "\xff\xff\xff\xff\xff\xff\xff\xff\xff\x01",
		math.MinInt64 + 1: "\xfd\xff\xff\xff\xff\xff\xff\xff\xff\x01",
	} {
		if got := octet.Int(v); got != s {
			t.Errorf("Int(%d) is %q, not %q", v, got, s)
		}
	}
}

func TestP12GetInt(t *testing.T) {
	for _, v := range signed() {
		for _, tail := range tails() {
			got, rest, e := octet.GetInt(octet.Int(v) + tail)
			if got != v || rest != tail || e != api.OK {
				t.Errorf("GetInt of %d with %q behind it: %d %q %v", v, tail, got, rest, e)
			}
		}
	}
	for s, want := range unread() {
		if v, rest, e := octet.GetInt(s); v != 0 || rest != "" || e != want {
			t.Errorf("GetInt(%q): %d %q %v, not %v", s, v, rest, e, want)
		}
	}
}

func TestP13Text(t *testing.T) {
	for n, head := range map[int]string{0: "\x00", 1: "\x01", 127: "\x7f", 128: "\x80\x01", 4095: "\xff\x1f", 4096: "\x80\x20"} {
		text := strings.Repeat("\xe9", n)
		s, e := octet.Text(text)
		if s != head+text || e != api.OK {
			t.Errorf("Text of %d bytes: %d bytes, %v", n, len(s), e)
		}
		for _, tail := range tails() {
			got, rest, e := octet.GetText(s + tail)
			if got != text || rest != tail || e != api.OK {
				t.Errorf("GetText of %d bytes with %q behind them: %d bytes, %q, %v", n, tail, len(got), rest, e)
			}
		}
	}
	for _, n := range []int{4097, 4098, 1 << 20} {
		if s, e := octet.Text(strings.Repeat("a", n)); s != "" || e != api.ErrLong {
			t.Errorf("Text of %d bytes: %d bytes, %v", n, len(s), e)
		}
	}
}

// untext are bytes that no text begins, with the error they ask for.
func untext() map[string]api.Errno {
	m := unread()
	m["\x01"] = api.ErrEnd
	m["\x03ab"] = api.ErrEnd
	m["\x80\x20"] = api.ErrEnd
	m["\x80\x20"+strings.Repeat("a", 4095)] = api.ErrEnd
	m["\x81\x20"] = api.ErrLong // too long, and not there: the first counts
	m["\x81\x20"+strings.Repeat("a", 5000)] = api.ErrLong
	for _, v := range edges() {
		if v > api.MaxText {
			m[octet.Num(v)] = api.ErrLong
			m[octet.Num(v)+"abc"] = api.ErrLong
		}
	}
	return m
}

func TestP13GetTextWrong(t *testing.T) {
	for s, want := range untext() {
		if text, rest, e := octet.GetText(s); text != "" || rest != "" || e != want {
			t.Errorf("GetText(%.20q): %.20q %.20q %v, not %v", s, text, rest, e, want)
		}
	}
}

func TestP14Row(t *testing.T) {
	if s := octet.Row(1, 128, 0); s != "\x01\x80\x01\x00" {
		t.Errorf("%q", s)
	}
	if a, b, c := octet.Row(), octet.Row(nil...), octet.Row([]uint64{}...); a != "" || b != "" || c != "" {
		t.Errorf("%q %q %q", a, b, c)
	}
	l := edges()
	want := ""
	for _, v := range l {
		want += octet.Num(v)
	}
	if got := octet.Row(l...); got != want {
		t.Errorf("%q, not %q", got, want)
	}
	if !slices.Equal(l, edges()) {
		t.Error("Row changed what it was handed")
	}
}

func TestP14GetRow(t *testing.T) {
	l := edges()
	for n := 0; n <= len(l); n++ {
		for _, tail := range tails() {
			got, rest, e := octet.GetRow(octet.Row(l...)+tail, n)
			if !slices.Equal(got, l[:n]) || rest != octet.Row(l[n:]...)+tail || e != api.OK {
				t.Errorf("GetRow of %d numbers with %q behind them: %d %q %v", n, tail, got, rest, e)
			}
		}
	}
	for _, n := range []int{0, -1, -2, math.MinInt} {
		for _, s := range append(tails(), "ab") {
			if got, rest, e := octet.GetRow(s, n); len(got) != 0 || rest != s || e != api.OK {
				t.Errorf("GetRow(%q, %d): %d %q %v", s, n, got, rest, e)
			}
		}
	}
}

func TestP14GetRowWrong(t *testing.T) {
	for s, want := range unread() {
		for n := range 3 {
			row := strings.Repeat("\x07", n) + s
			for _, more := range []int{1, 2, 1000, math.MaxInt - 2} {
				if l, rest, e := octet.GetRow(row, n+more); len(l) != 0 || rest != "" || e != want {
					t.Errorf("GetRow(%q, %d): %d %q %v, not %v", row, n+more, l, rest, e, want)
				}
			}
			if l, rest, e := octet.GetRow(row, n); len(l) != n || rest != s || e != api.OK {
				t.Errorf("GetRow(%q, %d): %d %q %v", row, n, l, rest, e)
			}
		}
	}
}

func TestP14GetRowIsNew(t *testing.T) {
	s := octet.Row(1, 2, 3)
	a, _, _ := octet.GetRow(s, 3)
	a[0] = 9
	if b, _, _ := octet.GetRow(s, 3); !slices.Equal(b, []uint64{1, 2, 3}) {
		t.Error(b)
	}
}

// TestP15AsItStood: what is got is put as it stood.
func TestP15AsItStood(t *testing.T) {
	read := 0
	check := func(s string) {
		if v, rest, e := octet.Get(s); e == api.OK {
			read++
			if octet.Num(v)+rest != s {
				t.Errorf("%q: %d is put as %q", s, v, octet.Num(v))
			}
		}
		if v, rest, e := octet.GetInt(s); e == api.OK && octet.Int(v)+rest != s {
			t.Errorf("%q: %d is put as %q", s, v, octet.Int(v))
		}
		if text, rest, e := octet.GetText(s); e == api.OK {
			if b, e := octet.Text(text); b+rest != s || e != api.OK {
				t.Errorf("%q: %q is put as %q", s, text, b)
			}
		}
		if l, rest, e := octet.GetRow(s, 2); e == api.OK && octet.Row(l...)+rest != s {
			t.Errorf("%q: %d is put as %q", s, l, octet.Row(l...))
		}
	}
	for i := range 1 << 16 {
		check(string([]byte{byte(i), byte(i >> 8), 1}))
	}
	for s := range unread() {
		check(s + "\x01")
		check("\x05" + s)
	}
	if read == 0 {
		t.Error("nothing was read")
	}
}

// TestP15NoneBeginsAnother: no number's bytes begin with another one's.
func TestP15NoneBeginsAnother(t *testing.T) {
	l := edges()
	for v := range uint64(1000) {
		l = append(l, v*17)
	}
	slices.Sort(l)
	l = slices.Compact(l)
	for _, a := range l {
		for _, b := range l {
			if a != b && strings.HasPrefix(octet.Num(a), octet.Num(b)) {
				t.Fatalf("the bytes of %d begin with those of %d", a, b)
			}
		}
	}
}
