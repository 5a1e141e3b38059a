package hres_test

import (
	"strconv"
	"strings"
	"testing"

	"gossamer/api"
	"gossamer/hres"
	"gossamer/made"
)

func to(key, to string) api.Entry { return api.Entry{Key: key, To: to} }
func none(key string) api.Entry   { return api.Entry{Key: key, None: true} }

func TestMatch(t *testing.T) { // P20.1, P20.3
	l := []api.Entry{to("x:u/", "http://h/u/"), to("http://g/", "http://h/g/"), none("n/"), none("n"), to("e/x", "http://h/ex"), to("e/", "http://h/e/"), to("e", "x:e"), to("d/", "data:d/"), to("q/", "http://h/q?/"), to("f/", "http://h/f#/"), to("bad/", "no URL/"), to("b", "http://h/b")}
	for _, c := range []struct {
		spec        string
		is, special bool
		want        string
		ok          bool
		code        api.Errno
	}{
		{"b", false, false, "http://h/b", true, api.OK}, {"b/c", false, false, "", false, api.OK}, {"bb", false, false, "", false, api.OK}, {"", false, false, "", false, api.OK}, {"B", false, false, "", false, api.OK},
		{"e", false, false, "x:e", true, api.OK}, {"e/", false, false, "http://h/e/", true, api.OK}, {"e/x", false, false, "http://h/ex", true, api.OK}, {"e/y", false, false, "http://h/e/y", true, api.OK}, {"e/x/z?q#f", false, false, "http://h/e/x/z?q#f", true, api.OK}, {"e/x/../y", false, false, "http://h/e/y", true, api.OK}, {"e/./", false, false, "http://h/e/", true, api.OK}, {"e/ a", false, false, "http://h/e/a", true, api.OK},
		{"n", false, false, "", false, api.ErrNull}, {"n/", false, false, "", false, api.ErrNull}, {"n/a", false, false, "", false, api.ErrNull}, {"n/../a", false, false, "", false, api.ErrNull},
		{"e/..", false, false, "", false, api.ErrBack}, {"e/../x", false, false, "", false, api.ErrBack}, {"e//x", false, false, "", false, api.ErrBack}, {"e//g/e/", false, false, "", false, api.ErrBack}, {"e/x:y", false, false, "", false, api.ErrBack}, {"e/http://h/f", false, false, "", false, api.ErrBack}, {"e/http://h/e/f", false, false, "http://h/e/f", true, api.OK}, {"e/../e/x", false, false, "http://h/e/x", true, api.OK}, {"e/%2e%2E/", false, false, "", false, api.ErrBack}, {"e/\\g", false, false, "", false, api.ErrBack},
		{"e/http://[", false, false, "", false, api.ErrURL}, {"e///", false, false, "", false, api.ErrURL}, {"e///\u00e9", false, false, "", false, api.ErrHost}, {"d/x", false, false, "", false, api.ErrURL}, {"d/", false, false, "data:d/", true, api.OK}, {"d/#x", false, false, "data:d/#x", true, api.OK}, {"q/x", false, false, "", false, api.ErrBack}, {"q/#x", false, false, "http://h/q?/#x", true, api.OK}, {"f/#/x", false, false, "http://h/f#/x", true, api.OK}, {"f/x", false, false, "", false, api.ErrBack}, {"bad/x", false, false, "", false, api.ErrURL}, {"bad/", false, false, "no URL/", true, api.OK},
		{"http://g/a", true, true, "http://h/g/a", true, api.OK}, {"http://g/", true, true, "http://h/g/", true, api.OK}, {"x:u/a", true, false, "", false, api.OK}, {"x:u/", true, false, "http://h/u/", true, api.OK}, {"x:u/a", false, false, "http://h/u/a", true, api.OK}, {"x:u/a", false, true, "http://h/u/a", true, api.OK},
		{"e/" + strings.Repeat("a", api.MaxBytes+1), false, false, "", false, api.ErrSize},
	} {
		if got, ok, code := hres.Match(l, c.spec, c.is, c.special); got != c.want || ok != c.ok || code != c.code {
			t.Errorf("Match(%.30q, %v, %v) = %.30q, %v, %d", c.spec, c.is, c.special, got, ok, code)
		}
	}
	first := []api.Entry{to("a/", "http://h/1/"), to("a/b/", "http://h/2/"), to("a/b/c", "http://h/3"), to("a/", "http://h/4/")}
	if got, ok, code := hres.Match(first, "a/b/c", false, false); got != "http://h/1/b/c" || !ok || code != api.OK {
		t.Errorf("the first one counts: %q", got)
	}
	if got, ok, code := hres.Match(nil, "a", false, false); got != "" || ok || code != api.OK {
		t.Errorf("Match of nothing: %q", got)
	}
}

func TestUnder(t *testing.T) { // P20.2
	for _, c := range []struct {
		prefix, base string
		want         bool
	}{{"http://h/a", "http://h/a", true}, {"http://h/a", "http://h/a/b", false}, {"http://h/a/", "http://h/a/b", true}, {"http://h/a/", "http://h/a/", true}, {"http://h/a/", "http://h/a", false}, {"http://h/a", "http://h/ab", false}, {"", "", true}, {"", "a", false}, {"/", "/a", true}, {"http://h/A/", "http://h/a/b", false}} {
		if got := hres.Under(c.prefix, c.base); got != c.want {
			t.Errorf("Under(%q, %q) = %v", c.prefix, c.base, got)
		}
	}
}

const whole = `{
	"imports": {"a": "/a1", "b/": "/b1/", "n": null, "/p": "/p1", "/d/": "/d1/", "x:o/": "/o/", "s": "/s1", "http://\u00e9/": "/z/", "http://\u00e9": "/y", "x:e": "/e1"},
	"scopes": {
		"/s/": {"a": "/a2", "s": null, "b/x": "/bx2", "z": "/z2", "y/": "/"}, "/s/t/": {"a": "/a3", "b/": "/b3/", "z": null, "y/": "/y3/"}, "/s/t/f": {"a": "/a4"}, "/g": {"a": "/a5"}
	}
}`

func TestResolve(t *testing.T) { // P20.2
	m := made.Map(whole, "http://h/")
	for _, c := range []struct{ spec, base, want, key string }{
		{"a", "http://h/r", "http://h/a1", "a"}, {"a", "http://h/s/r", "http://h/a2", "a"}, {"a", "http://h/s/t/r", "http://h/a3", "a"}, {"a", "http://h/s/t/f", "http://h/a4", "a"}, {"a", "http://h/s/t/f/g", "http://h/a3", "a"}, {"a", "http://h/s", "http://h/a1", "a"}, {"a", "http://h/g", "http://h/a5", "a"}, {"a", "http://h/g/x", "http://h/a1", "a"}, {"a", "data:", "http://h/a1", "a"},
		{"b/x", "http://h/r", "http://h/b1/x", "b/x"}, {"b/x", "http://h/s/r", "http://h/bx2", "b/x"}, {"b/x", "http://h/s/t/r", "http://h/b3/x", "b/x"}, {"b/y", "http://h/s/r", "http://h/b1/y", "b/y"}, {"s", "http://h/r", "http://h/s1", "s"}, {"z", "http://h/s/r", "http://h/z2", "z"}, {"http://\u00e9/x", "http://h/", "http://h/z/x", "http://\u00e9/x"}, {"http://\u00e9", "http://h/", "http://h/y", "http://\u00e9"},
	} {
		got, r, code := hres.Resolve(m, c.spec, made.URL(c.base))
		if want := (api.Record{Base: c.base, Spec: c.key}); got != c.want || r != want || code != api.OK {
			t.Errorf("Resolve(%q, %q) = %q, %v, %d", c.spec, c.base, got, r, code)
		}
	}
	for _, c := range []struct {
		spec, base, want, key string
		special               bool
	}{
		{"./p", "http://h/r", "http://h/p1", "http://h/p", true}, {"../p", "http://h/q/r", "http://h/p1", "http://h/p", true}, {"HTTP://h:80/d/e", "http://h/r", "http://h/d1/e", "http://h/d/e", true}, {"/d", "http://h/r", "http://h/d", "http://h/d", true}, {"x:o/p", "http://h/r", "x:o/p", "x:o/p", false}, {"x:o/", "http://h/r", "http://h/o/", "x:o/", false}, {"x:e", "http://h/r", "http://h/e1", "x:e", false}, {"x:f", "data:", "x:f", "x:f", false}, {"file:a", "http://h/r", "file:///a", "file:///a", true}, {"/p", "http://g/", "http://g/p", "http://g/p", true},
	} {
		got, r, code := hres.Resolve(m, c.spec, made.URL(c.base))
		if want := (api.Record{Base: c.base, Spec: c.key, URL: true, Special: c.special}); got != c.want || r != want || code != api.OK {
			t.Errorf("Resolve(%q, %q) = %q, %v, %d", c.spec, c.base, got, r, code)
		}
	}
	for _, c := range []struct {
		spec, base string
		code       api.Errno
	}{
		{"c", "http://h/r", api.ErrBare}, {"", "http://h/r", api.ErrBare}, {"b", "http://h/r", api.ErrBare}, {"/p", "data:", api.ErrBare}, {"http://[", "http://h/r", api.ErrBare}, {"//", "http://h/", api.ErrBare}, {"n", "http://h/r", api.ErrNull}, {"s", "http://h/s/r", api.ErrNull}, {"s", "http://h/s/t/r", api.ErrNull}, {"z", "http://h/s/t/r", api.ErrNull}, {"y/../x", "http://h/s/t/r", api.ErrBack}, {"b/../x", "http://h/r", api.ErrBack}, {"b/../x", "http://h/s/t/r", api.ErrBack},
		{"http://\u00e8/", "http://h/r", api.ErrHost}, {"//xn--a", "http://h/r", api.ErrHost}, {"b/http://\u00e9", "http://h/", api.ErrHost}, {"b/http://[", "http://h/", api.ErrURL}, {strings.Repeat("a", api.MaxBytes+1), "http://h/r", api.ErrSize}, {strings.Repeat("a", api.MaxBytes), "http://h/r", api.ErrBare}, {"\xff", "http://h/", api.ErrBare},
	} {
		if got, r, code := hres.Resolve(m, c.spec, made.URL(c.base)); got != "" || r != (api.Record{}) || code != c.code {
			t.Errorf("Resolve(%.20q, %q) = %q, %v, %d", c.spec, c.base, got, r, code)
		}
	}
	if got, r, code := hres.Resolve(made.Map(`{"imports": {"b/": "/lib/"}}`, "http://h/"), "b/../c", made.URL("http://h/")); got != "" || r != (api.Record{}) || code != api.ErrBack {
		t.Errorf("b/../c: %q, %v, %d", got, r, code)
	}
	if got, _, code := hres.Resolve(api.Map{}, "./x", made.URL("http://h/a/b")); got != "http://h/a/x" || code != api.OK {
		t.Errorf("by no map: %q, %d", got, code)
	}
}

func TestMany(t *testing.T) { // time
	var b strings.Builder
	b.WriteString(`{"imports":{"":0`)
	for i := range 40000 {
		b.WriteString(`,"k` + strconv.Itoa(i) + `/":"/"`)
	}
	b.WriteString("}}")
	m := made.Map(b.String(), "http://h/")
	by := made.URL("http://h/")
	for i := range 500 {
		if got, _, code := hres.Resolve(m, "k"+strconv.Itoa(i)+"/x", by); got != "http://h/x" || code != api.OK {
			t.Fatalf("%q, %d", got, code)
		}
	}
}
