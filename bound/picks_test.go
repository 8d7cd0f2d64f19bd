package bound_test

import (
	"math"
	"strings"
	"testing"

	"tollbar/bound"
	"tollbar/sample"
)

// strangers are numbers of workers that may not be.
func strangers() []int {
	return []int{0, -1, -2, -255, 256, 257, 511, 512, 1 << 16, 1<<16 + 1, 1 << 32, 1<<32 + 2, -1<<32 + 2, math.MaxInt, math.MinInt, math.MinInt + 1}
}

// everyone tells whether each of p workers is in these picks.
func everyone(picks string, p int) bool {
	for worker := range p {
		is := false
		for i := range len(picks) {
			is = is || int(picks[i])%p == worker
		}
		if !is {
			return false
		}
	}
	return true
}

// fair tells whether picks are w-fair of p workers, as the chapter's words tell it.
func fair(picks string, p, w int) bool {
	if p < 1 || p > 255 || w < p {
		return false
	}
	for from := 0; from+w <= len(picks); from++ {
		if !everyone(picks[from:from+w], p) {
			return false
		}
	}
	return true
}

// window is the least w for which they are, as the chapter's words tell it.
func window(picks string, p int) int {
	if p < 1 || p > 255 {
		return 0
	}
	for w := p; w <= len(picks); w++ {
		if fair(picks, p, w) {
			return w
		}
	}
	return max(len(picks)+1, p)
}

// asked fails, unless Window and Fair tell of these picks what they must, of each w up to some beyond their number.
func asked(t *testing.T, picks string, p int) {
	t.Helper()
	if w := bound.Window(picks, p); w != window(picks, p) {
		t.Fatalf("Window(%q, %d) is %d, not %d", picks, p, w, window(picks, p))
	}
	for w := -2; w <= len(picks)+p+2; w++ {
		if is := bound.Fair(picks, p, w); is != fair(picks, p, w) {
			t.Fatalf("Fair(%q, %d, %d) is %v", picks, p, w, is)
		}
	}
}

// rows does it to all rows of up to n of these bytes.
func rows(bytes string, n int, do func(picks string)) {
	var longer func(picks string)
	longer = func(picks string) {
		do(picks)
		for i := range len(bytes) {
			if len(picks) < n {
				longer(picks + bytes[i:i+1])
			}
		}
	}
	longer("")
}

// turn is a pick of each of p workers.
func turn(p int) string {
	b := make([]byte, p)
	for worker := range b {
		b[worker] = byte(worker)
	}
	return string(b)
}

// made are n bytes of no order, each one of so many.
func made(salt, n, kinds int) string {
	b := make([]byte, n)
	for i := range b {
		b[i] = byte(sample.Mix(salt<<12+i) % uint64(kinds))
	}
	return string(b)
}

// TestP192Rows: Fair and Window of all short rows of picks.
func TestP192Rows(t *testing.T) {
	for _, x := range []struct {
		bytes string
		n     int
	}{{"\x00\x01", 9}, {"\x00\x01\x02", 7}, {"\x00\x01\x02\x03", 6}, {"\x00\xff", 7}, {"\x05\x80\xc3\xfe\xff", 4}} {
		rows(x.bytes, x.n, func(picks string) {
			for p := -1; p <= 6; p++ {
				asked(t, picks, p)
			}
		})
	}
}

// TestP192Mixed: of longer picks, of any bytes, of few workers and of many.
func TestP192Mixed(t *testing.T) {
	for _, kinds := range []int{2, 3, 4, 5, 7, 10, 256} {
		for k, n := range []int{1, 2, 5, 20, 50} {
			picks := made(k+kinds, n, kinds)
			for _, p := range []int{1, 2, 3, 4, 5, 7, 8, 10} {
				asked(t, picks, p)
			}
		}
	}
	for k := range 3 {
		picks := made(k+300, 500, 256)
		for _, p := range []int{1, 2, 7, 40} {
			if w := bound.Window(picks, p); w != window(picks, p) {
				t.Errorf("Window of %d, %d is %d, not %d", k, p, w, window(picks, p))
			}
		}
	}
}

// TestP192Written: picks whose windows are written out.
func TestP192Written(t *testing.T) {
	for _, x := range []struct {
		picks string
		p, w  int
	}{
		{"", 1, 1},
		{"", 2, 2},
		{"", 255, 255},
		{"\x00", 1, 1},
		{"\x07\x08\xff", 1, 1}, // all picks are of the one worker
		{"\x00", 2, 2},
		{"\x00\x00", 2, 3}, // none of the worker 1
		{"\x01\x01", 2, 3}, // none of the worker 0
		{"\x00\x01", 2, 2},
		{"\x02\x03", 2, 2},     // modulo P
		{"\x00\x00\x01", 2, 3}, // the worker 1 comes late
		{"\x01\x00\x00", 2, 3}, // it comes no more
		{"\x01\x00\x00\x01", 2, 3},
		{"\x00\x01\x01\x01\x00", 2, 4},
		{"\x00\x01\x00\x01\x00\x00\x00\x00", 2, 5},
		{"\x01\x01\x01\x00\x01\x00", 2, 4},
		{"\x00\x01\x02\x00\x01\x02", 3, 3},
		{"\x00\x01\x02\x02\x01\x00", 3, 5},
		{"\x00\x01\x03\x04", 3, 5},                       // none of the worker 2
		{"\x00\x01", 3, 3},                               // fewer than workers
		{"\x00\x01", 7, 7},                               // as many as workers, though it is fewer
		{"\x00\x00\x00", 3, 4},                           // as many as there are, and one
		{"\x00\xff", 255, 255},                           // 255 is the worker 0 of 255
		{"\xff\x00", 2, 2},                               // and the worker 1 of 2
		{"\x80\x81\x82\x83", 2, 2},                       // bytes that are no runes
		{"\xc3\xa9\xc3\xa9", 2, 5},                       // and such that are: all odd
		{"\xe2\x82\xac\x00\x02", 3, 5},                   // 226, 130, 172 are of the worker 1 of 3
		{strings.Repeat("\x00", 1000) + "\x01", 2, 1001}, // once, at the end
		{"\x01" + strings.Repeat("\x00", 1000), 2, 1001}, // once, at the beginning
		{strings.Repeat("\x00", 300) + "\x01\x02\x01\x02", 3, 302}, // a window may be of more than 255 picks
	} {
		if w := bound.Window(x.picks, x.p); w != x.w {
			t.Errorf("Window(%q, %d) is %d, not %d", x.picks, x.p, w, x.w)
		}
		if !bound.Fair(x.picks, x.p, x.w) || bound.Fair(x.picks, x.p, x.w-1) {
			t.Errorf("Fair(%q, %d) is not so from %d on", x.picks, x.p, x.w)
		}
	}
}

// TestP192Workers: each number of workers that may be, of picks in turn, and of such of which one lacks.
func TestP192Workers(t *testing.T) {
	for p := 1; p <= 255; p++ {
		turns := strings.Repeat(turn(p), 3)
		if w := bound.Window(turns, p); w != p {
			t.Errorf("of %d workers in turn: Window is %d", p, w)
		}
		if p == 1 {
			continue
		}
		for _, lacks := range []int{0, p / 2, p - 1} {
			others := strings.ReplaceAll(turns, string([]byte{byte(lacks)}), "")
			if w := bound.Window(others, p); w != len(others)+1 {
				t.Errorf("of %d workers in turn, without %d: Window is %d, not %d", p, lacks, w, len(others)+1)
			}
		}
	}
}

// TestP192Strangers: of no workers, and of too many, nothing is fair.
func TestP192Strangers(t *testing.T) {
	for _, p := range strangers() {
		for _, picks := range []string{"", "\x00", "\x00\x01\x00\x01", turn(255), made(1, 600, 256)} {
			for _, w := range []int{p, 0, 1, 2, 4, 255, 256, 257, 1024, len(picks), len(picks) + 1, math.MaxInt, math.MinInt} {
				if bound.Fair(picks, p, w) {
					t.Errorf("Fair(%d picks, %d, %d) is true", len(picks), p, w)
				}
			}
			if w := bound.Window(picks, p); w != 0 {
				t.Errorf("Window(%d picks, %d) is %d", len(picks), p, w)
			}
		}
	}
}

// TestP192Few: a window is of at least as many picks as there are workers; of picks that are fewer than a window all are fair.
func TestP192Few(t *testing.T) {
	for _, p := range []int{1, 2, 3, 100, 254, 255} {
		for _, picks := range []string{"", "\x00", "\x00\x00", turn(p), strings.Repeat(turn(p), 4), strings.Repeat("\x01", 400)} {
			for _, w := range []int{p - 1, p - 2, 0, -1, -p, math.MinInt, math.MinInt + p} {
				if bound.Fair(picks, p, w) {
					t.Errorf("Fair(%d picks, %d, %d) is true", len(picks), p, w)
				}
			}
			from := max(p, len(picks)+1)
			for _, w := range []int{from, from + 1, 1024 + from, 1025 + from, 1<<32 + from, math.MaxInt - 1, math.MaxInt} {
				if !bound.Fair(picks, p, w) {
					t.Errorf("Fair(%d picks, %d, %d) is false", len(picks), p, w)
				}
			}
		}
	}
}

// TestP192Round: Round of each number of workers, of few picks and of as many as may be.
func TestP192Round(t *testing.T) {
	for p := 1; p <= 255; p++ {
		for _, n := range []int{0, 1, 2, 3, p - 1, p, p + 1, 2*p - 1, 2 * p, 2*p + 1, 255, 256, 257, 1000} {
			want := strings.Repeat(turn(p), n/p) + turn(p)[:n%p]
			if picks := bound.Round(p, n); picks != want {
				t.Fatalf("Round(%d, %d) is %q", p, n, picks)
			}
		}
	}
	for _, p := range []int{1, 2, 3, 16, 255} {
		for _, n := range []int{999_999, 1_000_000} {
			if picks := bound.Round(p, n); picks != strings.Repeat(turn(p), n/p)+turn(p)[:n%p] {
				t.Errorf("Round(%d, %d) is not in turn, or %d picks", p, n, len(picks))
			}
		}
	}
}

// TestP192NoRound: of workers that may not be, and of fewer picks than none, or too many, there is nothing.
func TestP192NoRound(t *testing.T) {
	for _, p := range strangers() {
		for _, n := range []int{0, 1, 10, 1_000_000, 1_000_001, -1} {
			if picks := bound.Round(p, n); picks != "" {
				t.Errorf("Round(%d, %d) is %d picks", p, n, len(picks))
			}
		}
	}
	for _, p := range []int{1, 2, 3, 254, 255} {
		for _, n := range []int{-1, -2, -255, -1_000_000, 1_000_001, 1_000_002, 1 << 20, 1 << 31, 1 << 32, 1<<32 + 5, -1<<32 + 5, math.MaxInt, math.MinInt} {
			if picks := bound.Round(p, n); picks != "" {
				t.Errorf("Round(%d, %d) is %d picks", p, n, len(picks))
			}
		}
	}
}

// TestP193Round: Round(p, n) is p-fair, and of no fewer.
func TestP193Round(t *testing.T) {
	for p := 1; p <= 255; p++ {
		for _, n := range []int{0, 1, p - 1, p, p + 1, 2*p + 1, 1000} {
			picks := bound.Round(p, n)
			if !bound.Fair(picks, p, p) || bound.Fair(picks, p, p-1) || bound.Window(picks, p) != p {
				t.Errorf("Round(%d, %d): Window is %d", p, n, bound.Window(picks, p))
			}
		}
	}
	for _, p := range []int{1, 2, 255} {
		if picks := bound.Round(p, 1_000_000); !bound.Fair(picks, p, p) {
			t.Errorf("Round(%d, 1,000,000) is not fair", p)
		}
	}
}

// TestP193Wider: what is fair of one window is so of each greater one, and the least one is Window.
func TestP193Wider(t *testing.T) {
	for k := range 40 {
		picks := made(k, 10+4*k, 2+k%5)
		for p := 1; p <= 8; p++ {
			from := bound.Window(picks, p)
			for w := -1; w <= len(picks)+10; w++ {
				if is := bound.Fair(picks, p, w); is != (w >= from) {
					t.Fatalf("Fair(%q, %d, %d) is %v, and Window %d", picks, p, w, is, from)
				}
			}
		}
	}
}

// TestP193Part: any part of fair picks is fair.
func TestP193Part(t *testing.T) {
	for k := range 12 {
		picks := made(k+100, 40, 2+k%4)
		for p := 1; p <= 5; p++ {
			w := bound.Window(picks, p)
			for from := range len(picks) + 1 {
				for to := from; to <= len(picks); to++ {
					if !bound.Fair(picks[from:to], p, w) {
						t.Fatalf("Fair(%q, %d, %d) is false, and true of %q", picks[from:to], p, w, picks)
					}
				}
			}
		}
	}
}
