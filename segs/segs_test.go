package segs_test

import (
	"slices"
	"testing"

	"gossamer/segs"
)

func TestDotAndDots(t *testing.T) { // P11.1
	for s, want := range map[string]int{
		".": 1, "%2e": 1, "%2E": 1, "..": 2, ".%2e": 2, "%2E.": 2, "%2e%2E": 2, ".%2E": 2, "%2e.": 2,
		"": 0, "...": 0, "%2e%2e.": 0, "%2": 0, "%2f": 0, "%": 0, ". ": 0, " .": 0, ".a": 0, "a.": 0, "%2ea": 0, "%2e%": 0, "%2e%2": 0, "%252e": 0, "%2d": 0, "%2D": 0, "%2%": 0, "%E2": 0, "%2d.": 0, ".%2d": 0, "%2E%2d": 0, "%2\x65\x00": 0, "%2%65": 0, "%2\x05": 0, "\uff0e": 0, "%3e": 0, ".%2ex": 0,
	} {
		if segs.Dot(s) != (want == 1) || segs.Dots(s) != (want == 2) {
			t.Errorf("%q: %v, %v", s, segs.Dot(s), segs.Dots(s))
		}
	}
}

func TestDrives(t *testing.T) { // P11.1
	for s, want := range map[string][3]bool{
		"c:": {true, true, true}, "Z|": {true, false, true}, "a:": {true, true, true}, "A:": {true, true, true}, "z:": {true, true, true}, "c:/": {false, false, true}, "c|/x": {false, false, true}, "C:\\": {false, false, true}, "c:?": {false, false, true}, "c|#a": {false, false, true},
		"": {}, "c": {}, ":": {}, "::": {}, "1:": {}, "c;": {}, "c:x": {}, "c:.": {}, "cc:": {}, "/c:": {}, "@:": {}, "[:": {}, "`:": {}, "{:": {}, "c\\": {}, "c:%2f": {}, "\u00e9:": {}, "c: ": {}, "\x1a:": {}, "\x21:": {},
	} {
		if got := [3]bool{segs.Drive(s), segs.Fixed(s), segs.Begins(s)}; got != want {
			t.Errorf("%q: %v", s, got)
		}
	}
}

func TestShorter(t *testing.T) { // P11.2
	for _, c := range []struct {
		scheme     string
		path, want []string
	}{
		{"http", nil, nil}, {"file", nil, nil}, {"file", []string{}, nil}, {"http", []string{"a"}, nil}, {"http", []string{"a", "b"}, []string{"a"}}, {"http", []string{"c:"}, nil}, {"file", []string{"c:"}, []string{"c:"}}, {"file", []string{"c|"}, nil},
		{"file", []string{"c:", "x"}, []string{"c:"}}, {"file", []string{"x", "c:"}, []string{"x"}}, {"file", []string{""}, nil}, {"FILE", []string{"c:"}, nil}, {"", []string{"c:"}, nil}, {"file", []string{"cc:"}, nil},
	} {
		was := slices.Clone(c.path)
		got := segs.Shorter(c.scheme, c.path)
		if !slices.Equal(got, c.want) {
			t.Errorf("Shorter(%q, %q) = %q", c.scheme, c.path, got)
		}
		_ = append(got, "z")
		for i := range got {
			got[i] = "y"
		}
		if !slices.Equal(c.path, was) {
			t.Errorf("Shorter(%q, %q) shares memory", c.scheme, was) // R4
		}
	}
}
