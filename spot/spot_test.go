package spot_test

import (
	"math"
	"strings"
	"testing"

	"gossamer/order"
	"gossamer/spot"
	"gossamer/utf"
)

var some = []string{"", "a", "\n", "ab\nc", "\u00e9\u20ac", "\U0001f600", "\xff", "\xe2\x82", "\x82", "a\xf0\x90", "\n\n\U0001f600\n", "\r\n", "\u2028x"}

func TestWide(t *testing.T) { // P3.1
	for _, c := range []struct {
		in   []string
		want complex128
	}{
		{nil, 0}, {[]string{""}, 0}, {[]string{"a", "\U0001f600"}, 2 + 3i}, {[]string{"\uffff\U00010000"}, 2 + 3i},
		{[]string{"\xff\xff", "\n"}, 3 + 3i}, {[]string{"\xe2\x82", "\xac"}, 2 + 2i}, {[]string{"\U0010ffff", "", "\U00010000"}, 2 + 4i},
	} {
		if got := spot.Wide(c.in...); got != c.want {
			t.Errorf("Wide(%q) = %v", c.in, got)
		}
	}
	for _, a := range some {
		if got := spot.Wide(a); got != complex(float64(len(utf.Decode([]byte(a)))), float64(len(order.Units(a)))) {
			t.Errorf("Wide(%q) = %v", a, got)
		}
	}
}

func TestBehindAndAt(t *testing.T) { // P3.2
	for _, c := range []struct {
		p    complex128
		s    string
		want complex128
	}{
		{1 + 1i, "", 1 + 1i}, {1 + 1i, "abc", 1 + 4i}, {3 + 5i, "a\nb", 4 + 2i}, {2 + 7i, "\n", 3 + 1i}, {1 + 1i, "\r\t\u2028\U0001f600", 1 + 5i},
		{1 + 1i, "\xff\xe2\x82", 1 + 3i}, {complex(1<<40, 1<<40), "\n", complex(1<<40+1, 1)}, {complex(1<<40, 1<<40), "a", complex(1<<40, 1<<40+1)},
	} {
		if got := spot.Behind(c.p, c.s); got != c.want {
			t.Errorf("Behind(%v, %q) = %v", c.p, c.s, got)
		}
	}
	for _, c := range []struct {
		s    string
		at   int
		want complex128
	}{
		{"ab\nc", 4, 2 + 2i}, {"ab\nc", 3, 2 + 1i}, {"ab\nc", 2, 1 + 3i}, {"ab\nc", 0, 1 + 1i}, {"ab\nc", -5, 1 + 1i}, {"ab\nc", 99, 2 + 2i}, {"", 0, 1 + 1i}, {"", 3, 1 + 1i},
		{"\u20acx", 3, 1 + 2i}, {"\u20acx", 2, 1 + 2i}, {"\u20acx", 1, 1 + 2i}, {"\U0001f600x", 4, 1 + 2i},
	} {
		if got := spot.At(c.s, c.at); got != c.want {
			t.Errorf("At(%q, %d) = %v", c.s, c.at, got)
		}
	}
}

func TestLineAndColumn(t *testing.T) { // P3.2
	for _, n := range []int{1, 2, 77, 1<<31 + 5, 1 << 40} {
		p := complex(float64(n), 3)
		q := complex(3, float64(n))
		if spot.Line(p) != n || spot.Column(p) != 3 || spot.Line(q) != 3 || spot.Column(q) != n {
			t.Errorf("%v, %v: %d, %d, %d, %d", p, q, spot.Line(p), spot.Column(p), spot.Line(q), spot.Column(q))
		}
	}
	if spot.Line(0) != 0 || spot.Column(0) != 0 {
		t.Error("a place of nothing")
	}
	for _, f := range []float64{math.NaN(), math.Inf(1), math.Inf(-1), 1e300} {
		spot.Line(complex(f, f))
		spot.Column(complex(f, f))
		spot.Behind(complex(f, f), "a\n")
	}
}

func TestSums(t *testing.T) { // P3.3
	for _, a := range some {
		for _, b := range some {
			if got := spot.Wide(a, b); got != spot.Wide(a)+spot.Wide(b) {
				t.Errorf("Wide(%q, %q) = %v", a, b, got)
			}
			if !utf.Valid([]byte(a)) && (b == "" || b[0] > 0x7f) {
				continue
			}
			if got, want := spot.Behind(2+3i, a+b), spot.Behind(spot.Behind(2+3i, a), b); got != want {
				t.Errorf("Behind of %q and %q = %v, %v", a, b, got, want)
			}
		}
	}
}

func TestMegabyte(t *testing.T) {
	s := strings.Repeat("ab\n\u20ac", 1<<18)
	if got := spot.At(s, len(s)); got != 1<<18+1+2i {
		t.Errorf("At = %v", got)
	}
}
