// Package ascii knows the letters and digits that addresses, escapes and words
// are told with.
package ascii

// Upper has the hex digits with great letters, as % has them behind it.
const Upper = "0123456789ABCDEF"

// Digit tells whether c is a digit.
func Digit(c byte) bool {
	return c >= '0' && c <= '9'
}

// Letter tells whether c is a letter.
func Letter(c byte) bool {
	return c|0x20 >= 'a' && c|0x20 <= 'z'
}

// Hex tells a hex digit's number, of either case; of all else -1.
func Hex(c byte) int {
	switch {
	case Digit(c):
		return int(c - '0')
	case c >= 'a' && c <= 'f':
		return int(c-'a') + 10
	case c >= 'A' && c <= 'F':
		return int(c-'A') + 10
	}
	return -1
}

// Lower tells b with its letters small.
func Lower(b []byte) string {
	low := make([]byte, len(b))
	for i, c := range b {
		if c >= 'A' && c <= 'Z' {
			c += 'a' - 'A'
		}
		low[i] = c
	}
	return string(low)
}
