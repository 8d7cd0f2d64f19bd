// Package octet has numbers and texts as bytes, as short as can be.
package octet

import "tollbar/api"

const (
	more    = 0x80 // the bit that tells that one more byte follows
	longest = 10   // the bytes of the greatest number
	topmost = 1    // all that 64 bits leave for the last of so many
)

// put appends the bytes of v.
func put(b []byte, v uint64) []byte {
	for ; v >= more; v >>= 7 {
		b = append(b, byte(v)|more)
	}
	return append(b, byte(v))
}

// Num answers the bytes of v.
func Num(v uint64) string { return string(put(nil, v)) }

// Get answers the number whose bytes s begins with, and what is behind them.
func Get(s string) (v uint64, rest string, e api.Errno) {
	// A byte over topmost has no place in 64 bits; a 0 behind others could have been left out.
	wrong := func(i int) bool {
		return i == longest-1 && s[i] > topmost || i > 0 && s[i] == 0
	}
	e = api.ErrEnd
read:
	for i := range len(s) {
		switch b := uint64(s[i]); {
		case wrong(i):
			e = api.ErrForm
			break read
		case b < more:
			return v | b<<(7*i), s[i+1:], api.OK
		default:
			v |= (b - more) << (7 * i)
		}
	}
	return 0, "", e
}

// Int answers the bytes of v, a number with a sign.
func Int(v int64) string {
	if v < 0 {
		// The opposite of the least number is none: one is added ahead of turning.
		return Num(uint64(-(v+1))<<1 | 1)
	}
	return Num(uint64(v) << 1)
}

// GetInt answers the number with a sign whose bytes s begins with, and what is behind them.
func GetInt(s string) (v int64, rest string, e api.Errno) {
	u, rest, e := Get(s)
	if u&1 != 0 {
		return -int64(u>>1) - 1, rest, e
	}
	return int64(u >> 1), rest, e
}

// Text answers the bytes of the text s.
func Text(s string) (string, api.Errno) {
	if len(s) > api.MaxText {
		return "", api.ErrLong
	}
	return Num(uint64(len(s))) + s, api.OK
}

// GetText answers the text whose bytes s begins with, and what is behind them.
func GetText(s string) (text, rest string, e api.Errno) {
	n, rest, e := Get(s)
	switch {
	case e != api.OK:
		return "", "", e
	case n > api.MaxText:
		return "", "", api.ErrLong
	case n > uint64(len(rest)):
		return "", "", api.ErrEnd
	}
	return rest[:n], rest[n:], api.OK
}

// Row answers the bytes of all numbers of l, one behind the other.
func Row(l ...uint64) string {
	var b []byte
	for _, v := range l {
		b = put(b, v)
	}
	return string(b)
}

// GetRow answers the n numbers whose bytes s begins with, and what is behind them.
func GetRow(s string, n int) (l []uint64, rest string, e api.Errno) {
	rest = s
	// The list grows as numbers come: n may be far more than s has.
	for range n {
		var v uint64
		if v, rest, e = Get(rest); e != api.OK {
			return nil, "", e
		}
		l = append(l, v)
	}
	return l, rest, api.OK
}
