package glob_test

import (
	"strings"
	"testing"

	"gossamer/glob"
)

func TestWeight(t *testing.T) { // P24.1
	for key, want := range map[string]complex128{"": 0, "a": 1i, "*": 1 + 1i, "./a/*.js": 5 + 8i, "a*b*c": 2 + 5i, "abc*": 4 + 4i, "\u00e9*": 3 + 3i, "./abc": 5i} {
		if got := glob.Weight(key); got != want {
			t.Errorf("Weight(%q) = %v", key, got)
		}
	}
}

func TestCompare(t *testing.T) { // P24.1
	for _, c := range []struct {
		a, b string
		want int
	}{
		{"", "", 0}, {"a", "a", 0}, {"a", "b", 0}, {"a*", "b*", 0}, {"./a/*", "./*", -1}, {"./*", "./a/*", 1}, {"./*", "./*.js", 1}, {"./*.js", "./*", -1}, {"./*.js", "./*.ts", 0}, {"*", "abcdef", -1}, {"abcdef", "*", 1}, {"ab", "a", -1}, {"a", "ab", 1}, {"", "a", 1}, {"./a*", "./*/very/long", -1}, {"a*b*c", "a*b", -1},
	} {
		if got := glob.Compare(c.a, c.b); got != c.want {
			t.Errorf("Compare(%q, %q) = %d", c.a, c.b, got)
		}
	}
}

func TestMatch(t *testing.T) { // P24.2
	for _, c := range []struct{ key, s, want string }{
		{"./a/*.js", "./a/b.js", "b"}, {"./*", "./a", "a"}, {"./*", "./a/b/c", "a/b/c"}, {"*", "a", "a"}, {"*a", "ba", "b"}, {"a*a", "aaa", "a"}, {"a*", "a*", "*"}, {"./*.js", "./.js.js", ".js"}, {"./*", "./\xff", "\xff"}, {"a*b", "a*b", "*"}, {"*", "**", "**"}, {"ab*ab", "ababab", "ab"},
	} {
		if got, ok := glob.Match(c.key, c.s); got != c.want || !ok {
			t.Errorf("Match(%q, %q) = %q, %v", c.key, c.s, got, ok)
		}
	}
	for _, c := range [][2]string{
		{"", ""}, {"a", "a"}, {"a", "ab"}, {"", "a"}, {"./a", "./a/b"}, {"a**", "ab*"}, {"a*b*", "axb*"}, {"*a*", "b*a*"}, {"./a", "./a"}, {"*", ""}, {"./*", "./"}, {"./*", "."}, {"./*.js", "./.js"}, {"./*.js", "./a.ts"}, {"a*a", "aa"}, {"a*a", "a"}, {"a**", "abc"}, {"*a*", "bac"}, {"./*", "/a"}, {"ab*ab", "abab"}, {"ab*ab", "abxa"}, {"aba*aba", "ababa"}, {"./A*", "./ab"}, {"a*bc", "ab"},
	} {
		if got, ok := glob.Match(c[0], c[1]); got != "" || ok {
			t.Errorf("Match(%q, %q) = %q, %v", c[0], c[1], got, ok)
		}
	}
}

func TestBest(t *testing.T) { // P24.2
	for _, c := range []struct {
		keys         []string
		s, key, star string
		ok           bool
	}{
		{[]string{"./*", "./a/*"}, "./a/b", "./a/*", "b", true}, {[]string{"./a/*", "./*"}, "./a/b", "./a/*", "b", true}, {[]string{"./*", "./*.js"}, "./b.js", "./*.js", "b", true}, {[]string{"./*.js", "./*"}, "./b.ts", "./*", "b.ts", true}, {[]string{"./a/*", "./*/b.js"}, "./a/b.js", "./a/*", "b.js", true},
		{[]string{"./a*", "./a*"}, "./ab", "./a*", "b", true}, {[]string{"./*b", "./*c", "./*"}, "./bc", "./*c", "b", true}, {[]string{"*x", "*y"}, "axy", "*y", "ax", true}, {nil, "a", "", "", false}, {[]string{"./a", "./"}, "./ab", "", "", false}, {[]string{"a", "b**"}, "a", "", "", false}, {[]string{"./a*", "./a"}, "./a", "", "", false}, {[]string{"./*/x", "./*/y"}, "./q/z", "", "", false},
		{[]string{"./a*c", "./ab*"}, "./abc", "./ab*", "c", true}, {[]string{"*c", "*bc"}, "abc", "*bc", "a", true},
	} {
		if key, star, ok := glob.Best(c.keys, c.s); key != c.key || star != c.star || ok != c.ok {
			t.Errorf("Best(%q, %q) = %q, %q, %v", c.keys, c.s, key, star, ok)
		}
	}
	keys := make([]string, 100000)
	for i := range keys {
		keys[i] = "./" + strings.Repeat("a", i%20) + "*"
	}
	if key, star, ok := glob.Best(keys, "./"+strings.Repeat("a", 30)); key != keys[19] || len(star) != 11 || !ok {
		t.Errorf("Best of many: %q, %q, %v", key, star, ok)
	}
}
