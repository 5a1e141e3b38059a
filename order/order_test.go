package order_test

import (
	"cmp"
	"slices"
	"strings"
	"testing"

	"gossamer/order"
	"gossamer/utf"
)

func TestUnits(t *testing.T) { // P2.1
	for in, want := range map[string][]uint16{
		"":                     nil,
		"a\u00e9\uffff":        {'a', 0xe9, 0xffff},
		"\U00010000":           {0xd800, 0xdc00},
		"\U0001f600b":          {0xd83d, 0xde00, 'b'},
		"\U0010ffff":           {0xdbff, 0xdfff},
		"\xff\xed\xa0\x80":     {0xfffd, 0xfffd, 0xfffd, 0xfffd},
		"\U000103ff\U00010400": {0xd800, 0xdfff, 0xd801, 0xdc00},
	} {
		if got := order.Units(in); !slices.Equal(got, want) {
			t.Errorf("Units(%x) = %x", in, got)
		}
	}
}

func TestCompareAndPoints(t *testing.T) { // P2.1, P2.3
	for _, c := range []struct {
		a, b          string
		units, points int
	}{
		{"", "", 0, 0}, {"", "a", -1, -1}, {"a", "", 1, 1}, {"a", "a", 0, 0}, {"a", "ab", -1, -1}, {"ab", "a", 1, 1},
		{"a", "b", -1, -1}, {"b", "ab", 1, 1}, {"a\x00", "a", 1, 1}, {"a", "a\x00", -1, -1},
		{"\uff21", "\U0001f600", 1, -1}, {"\U0001f600", "\uff21", -1, 1},
		{"\ue000", "\U00010000", 1, -1}, {"\uffff", "\U0010ffff", 1, -1}, {"\ud7ff", "\U00010000", -1, -1}, {"\U00010000", "\ud7ff", 1, 1},
		{"x\ue000", "x\U00010000", 1, -1}, {"\U00010000", "\U00010001", -1, -1}, {"\U00010400", "\U000103ff", 1, 1},
		{"\xff", "\xfe", 0, 0}, {"\xff", "\ufffd", 0, 0}, {"\xe2\x82", "\xff", 0, 0}, {"\xff", "\U0001f600", 1, -1}, {"\xff", "\xffa", -1, -1},
		{"\U0001f600", "\U0001f600\ue000", -1, -1},
	} {
		if got := order.Compare(c.a, c.b); got != c.units {
			t.Errorf("Compare(%x, %x) = %d", c.a, c.b, got)
		}
		if got := order.Points(c.a, c.b); got != c.points {
			t.Errorf("Points(%x, %x) = %d", c.a, c.b, got)
		}
	}
}

var some = []string{"", "a", "ab", "b", "\x00", "\ud7ff", "\ue000", "\uffff", "\U00010000", "\U0001f600", "\U0010ffff", "a\ue000", "a\U00010000", "\xff", "\xe2\x82", "\U00010000a", "\ue000a"}

func TestOrdersFollowUnitsAndPoints(t *testing.T) { // P2.1, P2.3
	for _, a := range some {
		for _, b := range some {
			if got, want := order.Compare(a, b), slices.Compare(order.Units(a), order.Units(b)); got != want {
				t.Errorf("Compare(%x, %x) = %d", a, b, got)
			}
			x, y := utf.Decode([]byte(a)), utf.Decode([]byte(b))
			if got, want := order.Points(a, b), slices.Compare(x, y); got != want {
				t.Errorf("Points(%x, %x) = %d", a, b, got)
			}
			if order.Compare(a, b) != -order.Compare(b, a) || order.Points(a, b) != -order.Points(b, a) {
				t.Errorf("%x and %x: no order", a, b)
			}
			if unlike := order.Compare(a, b) != order.Points(a, b); unlike != apart(x, y) {
				t.Errorf("%x and %x: told apart %v", a, b, unlike)
			}
		}
	}
}

// apart tells by P2.3's words whether the two orders differ.
func apart(x []rune, y []rune) bool {
	for i := range min(len(x), len(y)) {
		if p, q := min(x[i], y[i]), max(x[i], y[i]); p != q {
			return q > 0xffff && p >= 0xe000 && p <= 0xffff
		}
	}
	return false
}

func TestFalling(t *testing.T) { // P2.2
	in := []string{"a", "\U0001f600", "\xff", "", "b", "\uff21", "\xfe", "ab", "\ufffd", "a"}
	was := slices.Clone(in)
	got := order.Falling(in)
	want := []string{"\xff", "\xfe", "\ufffd", "\uff21", "\U0001f600", "b", "ab", "a", "a", ""}
	if !slices.Equal(got, want) {
		t.Errorf("Falling = %q", got)
	}
	if !slices.Equal(in, was) {
		t.Errorf("Falling changed what was handed in: %q", in)
	}
	got[0] = "x"
	if !slices.Equal(in, was) {
		t.Error("Falling shares memory with what was handed in")
	}
	if len(order.Falling(nil)) != 0 {
		t.Error("Falling of nothing")
	}
}

func TestLongTexts(t *testing.T) {
	a := strings.Repeat("\u20ac", 1<<18)
	if got := order.Compare(a+"b", a+"a"); got != 1 {
		t.Errorf("Compare = %d", got)
	}
	l := make([]string, 50000)
	for i := range l {
		l[i] = strings.Repeat("x", i*7919%100)
	}
	if got := order.Falling(l); !slices.IsSortedFunc(got, func(a, b string) int { return cmp.Compare(len(b), len(a)) }) {
		t.Error("Falling of many")
	}
}
