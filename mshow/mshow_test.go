package mshow_test

import (
	"math/rand"
	"strconv"
	"strings"
	"testing"

	"gossamer/api"
	"gossamer/imap"
	"gossamer/made"
	"gossamer/merge"
	"gossamer/mshow"
)

func to(key, to string) api.Entry { return api.Entry{Key: key, To: to} }

func TestShow(t *testing.T) { // P22.1
	for want, m := range map[string]api.Map{
		`{"imports":{},"scopes":{},"integrity":{}}`:                                     {},
		`{"imports":{"b":"x:1","a":null},"scopes":{},"integrity":{}}`:                   {Imports: []api.Entry{to("b", "x:1"), {Key: "a", None: true, To: "x"}}},
		`{"imports":{"a":"","b":"\""},"scopes":{},"integrity":{"k":"sha"}}`:             {Imports: []api.Entry{to("a", ""), to("b", "\"")}, Integrity: []api.Entry{to("k", "sha")}},
		`{"imports":{},"scopes":{"p":{"a":"b","c":null},"":{}},"integrity":{"k":null}}`: {Scopes: []api.Scope{{Prefix: "p", Imports: []api.Entry{to("a", "b"), {Key: "c", None: true}}}, {}}, Integrity: []api.Entry{{Key: "k", None: true, To: "x"}}},
	} {
		if got := mshow.Show(m); string(got) != want {
			t.Errorf("Show = %s, want %s", got, want)
		}
	}
	for i, m := range []api.Map{
		{Imports: []api.Entry{to("a", "x:1"), to("a", "x:2")}}, {Imports: []api.Entry{to("\xff", "x:1")}}, {Imports: []api.Entry{to("a", "\xff")}}, {Integrity: []api.Entry{to("a", ""), to("a", "")}}, {Scopes: []api.Scope{{Prefix: "p"}, {Prefix: "p"}}}, {Scopes: []api.Scope{{Prefix: "\xff"}}}, {Scopes: []api.Scope{{Prefix: "p", Imports: []api.Entry{to("a", ""), to("a", "")}}}},
	} {
		if got := mshow.Show(m); len(got) != 0 || mshow.May(m) {
			t.Errorf("%d: %s", i, got)
		}
	}
}

func TestSame(t *testing.T) { // P22.1
	m := func() api.Map {
		return api.Map{Imports: []api.Entry{to("a", "b"), to("c", "d")}, Scopes: []api.Scope{{Prefix: "p", Imports: []api.Entry{to("e", "f")}}, {Prefix: "q"}}, Integrity: []api.Entry{to("g", "h")}}
	}
	if !mshow.Same(m(), m()) || !mshow.Same(api.Map{}, api.Map{Imports: []api.Entry{}, Scopes: []api.Scope{}, Integrity: []api.Entry{}}) || !mshow.Same(api.Map{Scopes: []api.Scope{{}}}, api.Map{Scopes: []api.Scope{{Imports: []api.Entry{}}}}) {
		t.Error("Same of what is the same")
	}
	for i, turn := range []func(*api.Map){
		func(m *api.Map) { m.Imports[0].Key = "z" }, func(m *api.Map) { m.Imports[1].To = "z" }, func(m *api.Map) { m.Imports[0].None = true }, func(m *api.Map) { m.Imports[0], m.Imports[1] = m.Imports[1], m.Imports[0] }, func(m *api.Map) { m.Imports = m.Imports[:1] },
		func(m *api.Map) { m.Scopes[0].Prefix = "z" }, func(m *api.Map) { m.Scopes[0].Imports[0].To = "z" }, func(m *api.Map) { m.Scopes = m.Scopes[:1] }, func(m *api.Map) { m.Scopes[0], m.Scopes[1] = m.Scopes[1], m.Scopes[0] }, func(m *api.Map) { m.Scopes[0].Imports = nil }, func(m *api.Map) { m.Integrity[0].To = "" }, func(m *api.Map) { m.Integrity = nil },
	} {
		n := m()
		turn(&n)
		if mshow.Same(m(), n) || mshow.Same(n, m()) {
			t.Errorf("Same, turned by %d", i)
		}
	}
}

func TestMay(t *testing.T) { // P22.2
	for i, m := range []api.Map{
		{}, {Imports: []api.Entry{to("b", "x:1"), {Key: "a", None: true}}}, {Imports: []api.Entry{to("http://h/", "http://h/a/"), to("./a", "x:y")}}, {Scopes: []api.Scope{{Prefix: "x:y"}, {Prefix: "http://h/", Imports: []api.Entry{to("a", "x:")}}}}, {Integrity: []api.Entry{to("x:y", ""), to("http://h/", "q")}}, {Imports: []api.Entry{to("\uff21", "x:1"), to("\U0001f600", "x:2")}},
	} {
		if !mshow.May(m) {
			t.Errorf("%d: %s may not be", i, mshow.Show(m))
		}
	}
	for i, m := range []api.Map{
		{Imports: []api.Entry{to("a", "x:1"), to("b", "x:2")}}, {Imports: []api.Entry{to("a", "b")}}, {Imports: []api.Entry{to("a", "./b")}}, {Imports: []api.Entry{to("a", "http://h")}}, {Imports: []api.Entry{to("", "x:1")}}, {Imports: []api.Entry{to("http://h", "x:1")}}, {Imports: []api.Entry{to("a/", "x:1")}}, {Imports: []api.Entry{{Key: "a", None: true, To: "x:1"}}}, {Imports: []api.Entry{to("\U0001f600", "x:2"), to("\uff21", "x:1")}},
		{Scopes: []api.Scope{{Prefix: "a"}}}, {Scopes: []api.Scope{{Prefix: "http://h"}}}, {Scopes: []api.Scope{{Prefix: "/"}}}, {Scopes: []api.Scope{{Prefix: "http://h/"}, {Prefix: "x:y"}}}, {Scopes: []api.Scope{{Prefix: ""}}}, {Scopes: []api.Scope{{Prefix: "x:y", Imports: []api.Entry{to("a", "b")}}}}, {Integrity: []api.Entry{to("a", "")}}, {Integrity: []api.Entry{{Key: "x:y", None: true}}}, {Integrity: []api.Entry{to("http://h", "")}},
		{Imports: []api.Entry{to("a", "x:"+strings.Repeat("y", api.MaxBytes))}},
	} {
		if mshow.May(m) {
			t.Errorf("%d: %.99s may be", i, mshow.Show(m))
		}
	}
}

func TestWhatIsReadMayBe(t *testing.T) { // P22.3
	r := rand.New(rand.NewSource(22))
	texts := []string{"a", "a/", "./b", "./b/", "../c", "/d/", "//e", "//", "//\u00e9/", "http://f", "http://g/", "http://\u00e9/", "x:h/", "x:/i/..", "file:j", "file:///k/", "data:", "", " l ", "\uff21", "\U0001f600", "#m", "?n/", "HTTP://o:80/p", "q b", "x:r ?s", ".", "..", "/\t./#"}
	text := func() string { return strconv.QuoteToASCII(texts[r.Intn(len(texts))]) }
	part := func() string {
		var l []string
		for range r.Intn(6) {
			value := text()
			if r.Intn(5) == 0 {
				value = "null"
			}
			l = append(l, strings.ReplaceAll(text()+":"+value, `\U0001f600`, `\ud83d\ude00`))
		}
		return "{" + strings.Join(l, ",") + "}"
	}
	read := func(by string) api.Map {
		in := `{"imports":` + part() + `,"scopes":{` + text() + ":" + part() + "," + text() + ":" + part() + `},"integrity":` + part() + `}`
		in = strings.ReplaceAll(in, `\U0001f600`, `\ud83d\ude00`)
		m, _, _, code := imap.Parse([]byte(in), made.URL(by))
		if code != api.OK {
			t.Fatalf("%s: %d", in, code)
		}
		return m
	}
	bases := []string{"http://h/a/b?c#d", "file:///c:/x/y", "data:o", "x:/p/q", "x://h", "https://u:p@h:1/"}
	for range 3000 {
		a, b := read(bases[r.Intn(len(bases))]), read(bases[r.Intn(len(bases))])
		whole, _ := merge.Merge(a, b)
		for _, m := range []api.Map{a, b, whole} {
			if !mshow.May(m) {
				t.Fatalf("%s may not be", mshow.Show(m))
			}
		}
	}
}

func TestArgumentsStay(t *testing.T) { // R4
	m := api.Map{Imports: []api.Entry{to("b", "x:1"), to("a", "x:2")}}
	b := mshow.Show(m)
	b[0] = 'x'
	if mshow.Show(m)[0] != '{' || m.Imports[0] != to("b", "x:1") {
		t.Error("Show shares memory")
	}
}
