package pct_test

import (
	"slices"
	"strings"
	"testing"

	"gossamer/api"
	"gossamer/pct"
)

// What each set has of the visible ASCII, and the blank, as the chapter tells.
func visible() map[int]string {
	return map[int]string{
		api.SetControl:   "",
		api.SetFragment:  " \"<>`",
		api.SetQuery:     " \"#<>",
		api.SetSpecial:   " \"#<>'",
		api.SetPath:      " \"#<>?^`{}",
		api.SetUser:      " \"#<>?^`{}/:;=@[\\]|",
		api.SetComponent: " \"#<>?^`{}/:;=@[\\]|$%&+,",
	}
}

func TestIn(t *testing.T) { // P4.1
	for set, has := range visible() {
		for r := rune(-2); r < 0x300; r++ {
			want := r >= 0 && (r < 0x20 || r > 0x7e || strings.ContainsRune(has, r))
			if got := pct.In(set, r); got != want {
				t.Errorf("In(%d, %x) = %v", set, r, got)
			}
		}
		for r, want := range map[rune]bool{0xd7ff: true, 0xd800: true, 0xdfff: true, 0xffff: true, 0x10ffff: true, 0x110000: false, 1<<31 - 1: false, -1 << 31: false} {
			if got := pct.In(set, r); got != want {
				t.Errorf("In(%d, %x) = %v", set, r, got)
			}
		}
	}
	for _, set := range []int{-1, 7, 99, 1 << 40, -1 << 62} {
		for _, r := range []rune{0, ' ', '"', '%', 0x7f, 0x20ac} {
			if pct.In(set, r) {
				t.Errorf("In(%d, %x)", set, r)
			}
		}
	}
}

func TestEncode(t *testing.T) { // P4.2
	for _, c := range []struct {
		in   string
		set  int
		want string
	}{
		{"", api.SetPath, ""}, {"a b", api.SetPath, "a%20b"}, {"a b", api.SetControl, "a b"}, {"\x00\x1f\x7f~", api.SetControl, "%00%1F%7F~"},
		{"\u20ac", api.SetControl, "%E2%82%AC"}, {"\xff", api.SetFragment, "%EF%BF%BD"}, {"\xe2\x82a", api.SetQuery, "%EF%BF%BDa"}, {"\U0001f600", api.SetUser, "%F0%9F%98%80"},
		{"'", api.SetSpecial, "%27"}, {"'", api.SetQuery, "'"}, {"`#", api.SetFragment, "%60#"}, {"`#", api.SetQuery, "`%23"},
		{"%41%", api.SetUser, "%41%"}, {"%41", api.SetComponent, "%2541"}, {"a/b:c", api.SetUser, "a%2Fb%3Ac"}, {"{|}", api.SetPath, "%7B|%7D"},
		{"a\x00 \xff", 99, "a\x00 \ufffd"}, {"\u20ac\xe2\x82", -1, "\u20ac\ufffd"},
	} {
		if got := pct.Encode(c.in, c.set); got != c.want {
			t.Errorf("Encode(%q, %d) = %q", c.in, c.set, got)
		}
	}
	for set := range visible() {
		for r := rune(0); r < 0x80; r++ {
			want := string(r)
			if pct.In(set, r) {
				want = "%" + strings.ToUpper(string("0123456789abcdef"[r>>4])+string("0123456789abcdef"[r&15]))
			}
			if got := pct.Encode(string(r), set); got != want {
				t.Errorf("Encode(%q, %d) = %q", string(r), set, got)
			}
		}
	}
}

func TestDecode(t *testing.T) { // P4.2
	for in, want := range map[string]string{
		"": "", "abc": "abc", "%2fa%zz": "/a%zz", "%2F%2f": "//", "%41%4a%4A": "AJJ", "%": "%", "%4": "%4", "%%41": "%A", "%4%41": "%4A", "%e2%82%AC": "\u20ac",
		"%ff\xfe%00": "\xff\xfe\x00", "%g0%0g%0G": "%g0%0g%0G", "%25%34%31": "%41", "%2541": "%41", "+": "+", "%-1%+1": "%-1%+1", "a%4": "a%4", "%/0%:0%@0%`0": "%/0%:0%@0%`0",
	} {
		if got := pct.Decode(in); string(got) != want {
			t.Errorf("Decode(%q) = %q", in, got)
		}
	}
}

func TestThereAndBack(t *testing.T) { // P4.3
	for _, s := range []string{"", "a b", "%41", "\u20ac\x00%%", "\U0001f600/?#", "100%"} {
		if got := pct.Decode(pct.Encode(s, api.SetComponent)); string(got) != s {
			t.Errorf("%q: %q", s, got)
		}
	}
	for _, set := range []int{api.SetPath, api.SetUser, api.SetQuery, api.SetSpecial, api.SetFragment, api.SetControl} {
		for _, s := range []string{"a b%zz\xff", "\u20ac`'\"<>", "\x7f\x00"} {
			once := pct.Encode(s, set)
			if strings.ContainsFunc(once, func(r rune) bool { return r > 0x7f }) || pct.Encode(once, set) != once {
				t.Errorf("Encode(%q, %d) = %q", s, set, once)
			}
		}
	}
}

func TestMegabyte(t *testing.T) {
	s := strings.Repeat("\u20ac ", 1<<18)
	b := pct.Decode(pct.Encode(s, api.SetPath))
	if !slices.Equal(b, []byte(s)) {
		t.Error("a megabyte")
	}
}
