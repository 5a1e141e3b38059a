package jtok

import "gossamer/ascii"

// IsNumber tells whether s, whole, is a number.
func IsNumber(s string) bool {
	end, ok := number([]byte(s), 0)
	return ok && end == len(s)
}

// number tells where the number that begins at a byte ends, as far as it goes;
// if there is none, where a digit lacks, and false.
func number(b []byte, at int) (int, bool) {
	if here(b, at) == '-' {
		at++
	}
	if here(b, at) == '0' {
		at++
		goto fraction
	}
	if !ascii.Digit(here(b, at)) {
		goto lacking
	}
	at = behindDigits(b, at)

fraction:
	if here(b, at) != '.' {
		goto exponent
	}
	at++
	if !ascii.Digit(here(b, at)) {
		goto lacking
	}
	at = behindDigits(b, at)

exponent:
	if c := here(b, at); c != 'e' && c != 'E' {
		return at, true
	}
	at++
	if c := here(b, at); c == '+' || c == '-' {
		at++
	}
	if !ascii.Digit(here(b, at)) {
		goto lacking
	}
	return behindDigits(b, at), true

lacking:
	return at, false
}

// here is the byte that stands there; behind the end 0, which is part of no
// number.
func here(b []byte, at int) byte {
	if at < len(b) {
		return b[at]
	}
	return 0
}

func behindDigits(b []byte, at int) int {
	for ascii.Digit(here(b, at)) {
		at++
	}
	return at
}
