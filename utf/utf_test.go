package utf_test

import (
	"bytes"
	"slices"
	"strings"
	"testing"
	"unicode/utf8"

	"gossamer/utf"
)

func TestNextTellsCodePoints(t *testing.T) { // P1.1
	for _, c := range []struct {
		in string
		r  rune
		n  int
		ok bool
	}{
		{"", 0, 0, false},
		{"\x00", 0, 1, true}, {"\x7f", 0x7f, 1, true}, {"az", 'a', 1, true},
		{"\xc2\x80", 0x80, 2, true}, {"\xdf\xbf", 0x7ff, 2, true},
		{"\xe0\xa0\x80", 0x800, 3, true}, {"\xe0\xbf\xbf", 0xfff, 3, true},
		{"\xe1\x80\x80", 0x1000, 3, true}, {"\xec\xbf\xbf", 0xcfff, 3, true},
		{"\xed\x80\x80", 0xd000, 3, true}, {"\xed\x9f\xbf", 0xd7ff, 3, true},
		{"\xee\x80\x80", 0xe000, 3, true}, {"\xef\xbf\xbf", 0xffff, 3, true}, {"\xef\xbf\xbd", 0xfffd, 3, true},
		{"\xf0\x90\x80\x80", 0x10000, 4, true}, {"\xf0\xbf\xbf\xbf", 0x3ffff, 4, true},
		{"\xf1\x80\x80\x80", 0x40000, 4, true}, {"\xf3\xbf\xbf\xbf", 0xfffff, 4, true},
		{"\xf4\x80\x80\x80", 0x100000, 4, true}, {"\xf4\x8f\xbf\xbfa", 0x10ffff, 4, true},
	} {
		if r, n, ok := utf.Next([]byte(c.in)); r != c.r || n != c.n || ok != c.ok {
			t.Errorf("Next(%x) = %x, %d, %v", c.in, r, n, ok)
		}
	}
}

func TestNextCountsWhatCouldBegin(t *testing.T) { // P1.1
	for in, want := range map[string]int{
		"\x80": 1, "\xbf": 1, "\xc0\x80": 1, "\xc1\x80": 1, "\xc2": 1, "\xc2\x7f": 1, "\xdf\xc0": 1,
		"\xe0": 1, "\xe0\x9f\xbf": 1, "\xe0\xa0": 2, "\xe0\xa0\x7f": 2, "\xe0\xc0": 1,
		"\xe2\x82": 2, "\xe2\x82a": 2, "\xe2\x82\xc0": 2, "\xe2a": 1,
		"\xed\xa0\x80": 1, "\xed\x9f": 2, "\xed\x7f": 1,
		"\xf0\x8f\x80\x80": 1, "\xf0\x90": 2, "\xf0\x90\x80": 3, "\xf0\x90\x80a": 3, "\xf0\xc0": 1,
		"\xf1\x80\x80": 3, "\xf3\x80a": 2, "\xf4\x90\x80\x80": 1, "\xf4\x8f\xbf": 3, "\xf4\x8f\xbf\xc0": 3,
		"\xf5\x80\x80\x80": 1, "\xf8": 1, "\xff\xff": 1,
	} {
		if r, n, ok := utf.Next([]byte(in)); r != 0xfffd || n != want || ok {
			t.Errorf("Next(%x) = %x, %d, %v", in, r, n, ok)
		}
	}
}

// begins tells whether bytes could begin a code point.
func begins(b []byte, more int) bool {
	if r, n := utf8.DecodeRune(b); n == len(b) && (r != utf8.RuneError || n == 3) {
		return true
	}
	if more > 0 {
		for _, c := range []byte{0x80, 0x8f, 0x90, 0x9f, 0xa0, 0xbf} {
			if begins(append(b[:len(b):len(b)], c), more-1) {
				return true
			}
		}
	}
	return false
}

func TestNextByASecondReader(t *testing.T) { // P1.1
	edges := []byte{0x00, 0x7f, 0x80, 0x8f, 0x90, 0x9f, 0xa0, 0xbf, 0xc0, 0xff}
	for first := range 256 {
		for _, second := range edges {
			for _, third := range edges {
				for _, fourth := range edges {
					b := []byte{byte(first), second, third, fourth}
					want, n := utf8.DecodeRune(b)
					ok := want != utf8.RuneError || n == 3
					for !ok && n < 4 && begins(b[:n+1:n+1], 3-n) {
						n++
					}
					if r, m, also := utf.Next(b); r != want || m != n || also != ok {
						t.Fatalf("Next(%x) = %x, %d, %v, want %x, %d, %v", b, r, m, also, want, n, ok)
					}
				}
			}
		}
	}
}

func TestValidAndDecode(t *testing.T) { // P1.2
	for in, want := range map[string][]rune{
		"":                 nil,
		"abc":              {'a', 'b', 'c'},
		"\xed\xa0\x80":     {0xfffd, 0xfffd, 0xfffd},
		"a\xf0\x90\x80b":   {'a', 0xfffd, 'b'},
		"\xe2\x82\xac\xe2": {0x20ac, 0xfffd},
		"\xc3\xc3\xa9":     {0xfffd, 0xe9},
		"\xf4\x90\x80\x80": {0xfffd, 0xfffd, 0xfffd, 0xfffd},
		"\U0001f600\x00":   {0x1f600, 0},
	} {
		if got := utf.Decode([]byte(in)); !slices.Equal(got, want) {
			t.Errorf("Decode(%x) = %x", in, got)
		}
		if got := utf.Valid([]byte(in)); got != utf8.ValidString(in) {
			t.Errorf("Valid(%x) = %v", in, got)
		}
	}
	if !utf.Valid([]byte("\xef\xbf\xbd")) || !utf.Valid(nil) || utf.Valid([]byte("a\xff")) {
		t.Error("Valid: the replacement itself is UTF-8, nothing is, ff is not")
	}
}

func TestEncodeTellsBytes(t *testing.T) { // P1.2
	if got := utf.Encode(0, 0x7f, 0x80, 0x7ff, 0x800, 0xffff, 0x10000, 0x10ffff); string(got) != "\x00\x7f\u0080\u07ff\u0800\uffff\U00010000\U0010ffff" {
		t.Errorf("Encode = %x", got)
	}
	for _, r := range []rune{-1, -1 << 31, 0x110000, 1<<31 - 1, 0xd800, 0xd801, 0xdbff, 0xdc00, 0xdffe, 0xdfff} {
		if got := utf.Encode('a', r); string(got) != "a\ufffd" {
			t.Errorf("Encode(%x) = %x", r, got)
		}
	}
	if got := utf.Encode(); len(got) != 0 {
		t.Errorf("Encode() = %x", got)
	}
}

func TestThereAndBack(t *testing.T) { // P1.3
	for r := rune(0); r <= 0x10ffff; r++ {
		if r >= 0xd800 && r <= 0xdfff {
			continue
		}
		b := utf.Encode(r)
		got, n, ok := utf.Next(b)
		if got != r || n != len(b) || !ok || !utf.Valid(b) {
			t.Fatalf("%x: %x, %x, %d, %v", r, b, got, n, ok)
		}
	}
	text := []byte("a\u00e9\u20ac\U0001f600\ufffd\x00")
	if got := utf.Encode(utf.Decode(text)...); !bytes.Equal(got, text) {
		t.Errorf("Encode(Decode(%x)) = %x", text, got)
	}
}

func TestArgumentsStay(t *testing.T) { // R4
	rs := []rune{-1, 'a', 0xd800}
	utf.Encode(rs...)
	if !slices.Equal(rs, []rune{-1, 'a', 0xd800}) {
		t.Errorf("Encode changed what was handed in: %x", rs)
	}
	b := []byte("a\xffb")
	rs = utf.Decode(b[:2])
	_ = append(rs, 'z')
	if string(b) != "a\xffb" {
		t.Errorf("Decode changed what was handed in: %x", b)
	}
}

func TestMegabyte(t *testing.T) {
	b := []byte(strings.Repeat("\xe2\x82\xac\xe2\x82", 1<<18))
	if got := len(utf.Decode(b)); got != 1<<19 {
		t.Errorf("Decode: %d code points", got)
	}
}
