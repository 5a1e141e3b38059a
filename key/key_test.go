package key_test

import (
	"reflect"
	"strings"
	"testing"

	"gossamer/api"
	"gossamer/key"
	"gossamer/made"
	"gossamer/ushow"
)

func TestLikeAndKey(t *testing.T) { // P17.1
	for _, c := range []struct{ s, base, want string }{
		{"./a", "http://h/b/c", "http://h/b/a"}, {"../a", "http://h/b/c", "http://h/a"}, {"/a/", "http://h/b/c", "http://h/a/"}, {"//g/a", "http://h/b/c", "http://g/a"}, {"./", "http://h/b/c", "http://h/b/"}, {"../", "http://h/b/c", "http://h/"}, {"/", "http://h/b/c", "http://h/"}, {"/a\\..\\b", "http://h/", "http://h/b"},
		{"HTTP://G:80/x/..", "http://h/b/c", "http://g/"}, {"x:y", "http://h/", "x:y"}, {" data:a", "http://h/", "data:a"}, {"https:g", "https://h/b/c", "https://g/"}, {"file:a", "file:///b/c", "file:///a"}, {"./a:b", "file:///b/c", "file:///b/a:b"}, {"./#f", "http://h/b/c", "http://h/b/#f"},
	} {
		b := made.URL(c.base)
		u, code := key.Like(c.s, b)
		if code != api.OK || ushow.Show(u) != c.want {
			t.Errorf("Like(%q, %q) = %q, %d", c.s, c.base, ushow.Show(u), code)
		}
		if got, ok := key.Key(c.s, b); got != c.want || !ok {
			t.Errorf("Key(%q, %q) = %q, %v", c.s, c.base, got, ok)
		}
	}
	for _, c := range []struct {
		s, base string
		code    api.Errno
	}{
		{"a", "http://h/", api.ErrURL}, {"a/b", "http://h/", api.ErrURL}, {".", "http://h/", api.ErrURL}, {"..", "http://h/", api.ErrURL}, {".a", "http://h/", api.ErrURL}, {"..a/", "http://h/", api.ErrURL}, {"...", "http://h/", api.ErrURL}, {"\\a", "http://h/", api.ErrURL}, {".\\a", "http://h/", api.ErrURL}, {"#a", "http://h/", api.ErrURL}, {"?a", "http://h/", api.ErrURL}, {" ./a", "http://h/", api.ErrURL}, {" ", "http://h/", api.ErrURL}, {"\xff", "http://h/", api.ErrURL},
		{"./a", "data:x", api.ErrURL}, {"/a", "data:", api.ErrURL}, {"//", "http://h/", api.ErrURL}, {"http://", "http://h/", api.ErrURL}, {"http:a b", "http://h/", api.ErrURL}, {"http:\u00e9", "http://h/", api.ErrHost}, {"//xn--a", "http://h/", api.ErrHost}, {"/" + strings.Repeat("a", api.MaxBytes), "http://h/", api.ErrSize}, {strings.Repeat("a", api.MaxBytes+1), "http://h/", api.ErrSize},
	} {
		b := made.URL(c.base)
		if u, code := key.Like(c.s, b); code != c.code || !reflect.DeepEqual(u, api.URL{}) {
			t.Errorf("Like(%.20q, %q) = %q, %d", c.s, c.base, ushow.Show(u), code)
		}
		if got, ok := key.Key(c.s, b); got != c.s || !ok {
			t.Errorf("Key(%.20q, %q) = %.20q, %v", c.s, c.base, got, ok)
		}
	}
	if u, code := key.Like("", made.URL("http://h/")); code != api.ErrURL || !reflect.DeepEqual(u, api.URL{}) {
		t.Errorf("Like of nothing = %v, %d", u, code)
	}
	if got, ok := key.Key("", made.URL("http://h/")); got != "" || ok {
		t.Errorf("Key of nothing = %q, %v", got, ok)
	}
}
