package smap_test

import (
	"slices"
	"strconv"
	"strings"
	"testing"

	"gossamer/api"
	"gossamer/made"
	"gossamer/order"
	"gossamer/smap"
)

func to(key, to string) api.Entry { return api.Entry{Key: key, To: to} }
func none(key string) api.Entry   { return api.Entry{Key: key, None: true} }
func warn(kind int, key string) api.Warning {
	return api.Warning{Kind: kind, Scope: "S", Key: key}
}

func TestSorted(t *testing.T) { // P18.1
	for _, c := range []struct {
		in, base string
		entries  []api.Entry
		warnings []api.Warning
	}{
		{`{}`, "http://h/", nil, nil}, {`[]`, "http://h/", nil, nil}, {`null`, "http://h/", nil, nil}, {`"a"`, "http://h/", nil, nil}, {`[{"a":"/b"}]`, "http://h/", nil, nil},
		{`{"a": "/b", "": 1}`, "http://h/", []api.Entry{to("a", "http://h/b")}, []api.Warning{warn(api.WarnEmpty, "")}},
		{`{"": "/b"}`, "http://h/", nil, []api.Warning{warn(api.WarnEmpty, "")}},
		{`{"a": null, "b": 1, "c": ["/x"], "d": {}, "e": true}`, "http://h/", []api.Entry{none("e"), none("d"), none("c"), none("b"), none("a")}, []api.Warning{warn(api.WarnAddress, "a"), warn(api.WarnAddress, "b"), warn(api.WarnAddress, "c"), warn(api.WarnAddress, "d"), warn(api.WarnAddress, "e")}},
		{`{"a": "b", "c": "", "d": "http://\u00e9", "e": "http://"}`, "http://h/", []api.Entry{none("e"), none("d"), none("c"), none("a")}, []api.Warning{warn(api.WarnAddress, "a"), warn(api.WarnAddress, "c"), warn(api.WarnAddress, "d"), warn(api.WarnAddress, "e")}},
		{`{"a/": "/b", "c/": "/d/", "e": "/f/", "g/": "/h/?q", "i/": "/h?/", "j/": "/h/#"}`, "http://h/", []api.Entry{none("j/"), to("i/", "http://h/h?/"), none("g/"), to("e", "http://h/f/"), to("c/", "http://h/d/"), none("a/")}, []api.Warning{warn(api.WarnSlash, "a/"), warn(api.WarnSlash, "g/"), warn(api.WarnSlash, "j/")}},
		{`{"a/": 1}`, "http://h/", []api.Entry{none("a/")}, []api.Warning{warn(api.WarnAddress, "a/")}},
		{`{"./x": "./y", "/x": "../z", "http://H:80/w": "x:y"}`, "http://h/d/e", []api.Entry{to("http://h/x", "http://h/z"), to("http://h/w", "x:y"), to("http://h/d/x", "http://h/d/y")}, nil},
		{`{"http://g": "/b", "http://f": "/b/"}`, "http://h/", []api.Entry{none("http://g/"), to("http://f/", "http://h/b/")}, []api.Warning{warn(api.WarnSlash, "http://g")}},
		{`{"./": "/b"}`, "http://h/d/e", []api.Entry{none("http://h/d/")}, []api.Warning{warn(api.WarnSlash, "./")}},
		{`{"./a": "/1", "http://h/a": "/2", "b": "/3", "/a": 4}`, "http://h/", []api.Entry{none("http://h/a"), to("b", "http://h/3")}, []api.Warning{warn(api.WarnAddress, "/a")}},
		{`{"/a": 4, "./a": "/1"}`, "http://h/", []api.Entry{to("http://h/a", "http://h/1")}, []api.Warning{warn(api.WarnAddress, "/a")}},
		{`{"./a": "/1", "b": "x:y"}`, "data:z", []api.Entry{to("b", "x:y"), none("./a")}, []api.Warning{warn(api.WarnAddress, "./a")}},
		{`{"a": "x:a", "ab": "x:b", "\uff21": "x:c", "\ud83d\ude00": "x:d", "A": "x:e"}`, "data:", []api.Entry{to("\uff21", "x:c"), to("\U0001f600", "x:d"), to("ab", "x:b"), to("a", "x:a"), to("A", "x:e")}, nil},
	} {
		entries, warnings := smap.Sorted(made.Value(c.in), made.URL(c.base), "S")
		if !slices.Equal(entries, c.entries) || !slices.Equal(warnings, c.warnings) {
			t.Errorf("Sorted(%s) = %v, %v", c.in, entries, warnings)
		}
	}
}

func TestFind(t *testing.T) { // P18.1
	l := []api.Entry{to("a", "x:1"), none("b"), to("a", "x:2"), to("", "x:3")}
	for key, want := range map[string]api.Entry{"a": l[0], "b": l[1], "": l[3]} {
		if got, ok := smap.Find(l, key); got != want || !ok {
			t.Errorf("Find(%q) = %v, %v", key, got, ok)
		}
	}
	for _, key := range []string{"c", "A", "ab"} {
		if got, ok := smap.Find(l, key); got != (api.Entry{}) || ok {
			t.Errorf("Find(%q) = %v, %v", key, got, ok)
		}
	}
	if _, ok := smap.Find(nil, ""); ok {
		t.Error("Find in nothing")
	}
}

func TestReadAgain(t *testing.T) { // P18.2
	in := made.Value(`{"a": "/b", "./c/": "/d/", "e/": "/f", "//g": "x:y", "//\u00e9/": "/i/", "http://j": "/k", "": 1, "\uff21": "./l m", "\ud83d\ude00": null, "./n": "../o?p#q"}`)
	for _, s := range []string{"http://h/r/s", "file:///c:/t", "data:u", "x:/v", "x://"} {
		b := made.URL(s)
		entries, _ := smap.Sorted(in, b, "")
		again := api.Value{Kind: api.Object}
		for _, e := range entries {
			again.K = append(again.K, e.Key)
			if e.None {
				again.L = append(again.L, api.Value{})
			} else {
				again.L = append(again.L, api.Value{Kind: api.String, S: e.To})
			}
		}
		if got, _ := smap.Sorted(again, b, ""); !slices.Equal(got, entries) {
			t.Errorf("by %s: %v is read as %v", s, entries, got)
		}
	}
}

func TestAnyValue(t *testing.T) { // R1
	smap.Sorted(api.Value{Kind: api.Object, K: []string{"a", "b"}}, api.URL{}, "")
	smap.Sorted(api.Value{Kind: api.Object, L: []api.Value{{}}}, api.URL{Opaque: true}, "")
}

func TestMany(t *testing.T) { // P18.1, and time
	v := api.Value{Kind: api.Object}
	for i := range 30000 {
		v.K = append(v.K, "./"+strconv.Itoa(i*7919%30000), "k"+strconv.Itoa(i))
		v.L = append(v.L, api.Value{Kind: api.String, S: "/" + strings.Repeat("x", i%9)}, api.Value{})
	}
	entries, warnings := smap.Sorted(v, made.URL("http://h/"), "")
	if len(entries) != 60000 || len(warnings) != 30000 || !slices.IsSortedFunc(entries, func(a, b api.Entry) int { return order.Compare(b.Key, a.Key) }) {
		t.Errorf("%d entries, %d warnings", len(entries), len(warnings))
	}
}
