// Package walk goes through texts code point by code point, without a list of
// them all: texts may be long, and most callers look at each one just once.
package walk

import "gossamer/utf"

// longest is how many bytes a code point takes at most.
const longest = 4

// At tells the code point of s that begins at a byte, and how many bytes it
// takes; behind s's end 0 and 0.
func At(s string, at int) (rune, int) {
	if at >= len(s) {
		return 0, 0
	}
	if s[at] <= 0x7f {
		return rune(s[at]), 1
	}
	r, n, _ := utf.Next([]byte(s[at:min(at+longest, len(s))]))
	return r, n
}

// Plain tells s as UTF-8: itself, if it is that.
func Plain(s string) string {
	if utf.Valid([]byte(s)) {
		return s
	}
	return string(utf.Encode(utf.Decode([]byte(s))...))
}
