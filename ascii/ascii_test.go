package ascii_test

import (
	"strconv"
	"strings"
	"testing"

	"gossamer/ascii"
)

func TestBytes(t *testing.T) {
	for i := range 256 {
		c := byte(i)
		s := string([]byte{c})
		if got := ascii.Digit(c); got != strings.Contains("0123456789", s) {
			t.Errorf("Digit(%q) = %v", s, got)
		}
		if got := ascii.Letter(c); got != strings.Contains("abcdefghijklmnopqrstuvwxyzABCDEFGHIJKLMNOPQRSTUVWXYZ", s) {
			t.Errorf("Letter(%q) = %v", s, got)
		}
		want := int64(-1)
		if strings.Contains("0123456789abcdefABCDEF", s) {
			want, _ = strconv.ParseInt(s, 16, 64)
		}
		if got := ascii.Hex(c); got != int(want) {
			t.Errorf("Hex(%q) = %d", s, got)
		}
		low := s
		if i < 0x80 {
			low = strings.ToLower(s)
		}
		if got := ascii.Lower([]byte("x" + s)); got != "x"+low {
			t.Errorf("Lower(%q) = %q", s, got)
		}
	}
	for i, c := range []byte(ascii.Upper) {
		if ascii.Hex(c) != i || c >= 'a' {
			t.Errorf("Upper has %q at %d", c, i)
		}
	}
}

func TestArgumentStays(t *testing.T) {
	b := []byte("AB")
	if got := ascii.Lower(b); got != "ab" || string(b) != "AB" {
		t.Errorf("Lower = %q, of %q", got, b)
	}
}
