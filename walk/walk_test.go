package walk_test

import (
	"testing"

	"gossamer/walk"
)

func TestAt(t *testing.T) {
	s := "a\u20ac\xe2\x82b\U0001f600"
	at := 0
	for _, want := range []struct {
		r rune
		n int
	}{{'a', 1}, {0x20ac, 3}, {0xfffd, 2}, {'b', 1}, {0x1f600, 4}, {0, 0}} {
		r, n := walk.At(s, at)
		if r != want.r || n != want.n {
			t.Errorf("At(%d) = %x, %d", at, r, n)
		}
		at += n
	}
}

func TestPlain(t *testing.T) {
	for in, want := range map[string]string{"": "", "a\u20ac": "a\u20ac", "\xff\xe2\x82a": "\ufffd\ufffda"} {
		if got := walk.Plain(in); got != want {
			t.Errorf("Plain(%x) = %x", in, got)
		}
	}
}
