// Package utf: code points as bytes. Its chapter: shared/doc/01-utf.md.
package utf

// bad stands for what is no code point, or no bytes of one.
const bad = 0xfffd

// Next tells the code point at b's beginning, how many bytes it takes, and
// whether there is one. Of bytes that are none it tells how many of them could
// have begun one, so that a reader goes on just behind the fault.
func Next(b []byte) (rune, int, bool) {
	if len(b) == 0 {
		return 0, 0, false
	}
	if b[0] <= 0x7f {
		return rune(b[0]), 1, true
	}
	more, low, high := shape(b[0])
	if more == 0 {
		return bad, 1, false
	}
	r := rune(b[0] & (0x3f >> more))
	for i := 1; i <= more; i++ {
		if i >= len(b) || b[i] < low || b[i] > high {
			return bad, i, false
		}
		r = r<<6 | rune(b[i]&0x3f)
		low, high = 0x80, 0xbf
	}
	return r, more + 1, true
}

// shape tells how many bytes follow a first byte, and between which ones the
// next of them lies: only there overlong forms, surrogates, and what is above
// the last code point can be told from the rest.
func shape(first byte) (int, byte, byte) {
	switch {
	case first < 0xc2 || first > 0xf4:
		return 0, 0, 0
	case first <= 0xdf:
		return 1, 0x80, 0xbf
	case first == 0xe0:
		return 2, 0xa0, 0xbf
	case first == 0xed:
		return 2, 0x80, 0x9f
	case first <= 0xef:
		return 2, 0x80, 0xbf
	case first == 0xf0:
		return 3, 0x90, 0xbf
	case first == 0xf4:
		return 3, 0x80, 0x8f
	}
	return 3, 0x80, 0xbf
}

// Valid tells whether b is UTF-8 from end to end.
func Valid(b []byte) bool {
	for at := 0; at < len(b); {
		_, n, ok := Next(b[at:])
		if !ok {
			return false
		}
		at += n
	}
	return true
}

// Decode tells b's code points.
func Decode(b []byte) []rune {
	rs := make([]rune, 0, len(b))
	for at := 0; at < len(b); {
		r, n, _ := Next(b[at:])
		rs = append(rs, r)
		at += n
	}
	return rs
}

// Encode tells the bytes of code points.
func Encode(rs ...rune) []byte {
	b := make([]byte, 0, len(rs))
	for _, r := range rs {
		if r < 0 || r > 0x10ffff || r>>11 == 0xd800>>11 {
			r = bad
		}
		b = appendPoint(b, r)
	}
	return b
}

func appendPoint(b []byte, r rune) []byte {
	switch {
	case r < 1<<7:
		return append(b, byte(r))
	case r < 1<<11:
		return append(b, 0xc0|byte(r>>6), tail(r, 0))
	case r < 1<<16:
		return append(b, 0xe0|byte(r>>12), tail(r, 6), tail(r, 0))
	}
	return append(b, 0xf0|byte(r>>18), tail(r, 12), tail(r, 6), tail(r, 0))
}

// tail is the byte behind the first one that holds the six bits from shift on.
func tail(r rune, shift int) byte {
	return 0x80 | byte(r>>shift)&0x3f
}
