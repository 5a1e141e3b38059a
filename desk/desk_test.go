package desk_test

import (
	"fmt"
	"reflect"
	"slices"
	"strings"
	"testing"

	"gossamer/api"
	"gossamer/desk"
	"gossamer/made"
	"gossamer/mshow"
)

func begun(t *testing.T, texts ...string) *desk.Desk {
	t.Helper()
	d, code := desk.New(made.Nodes(texts...)...)
	if code != api.OK {
		t.Fatalf("%q: %d", texts, code)
	}
	return d
}

// told tells an answer in short.
func told(a api.Answer) string {
	s := fmt.Sprintf("%d %s %s %s", a.Code, a.URL, a.Format, a.Integrity)
	if a.Spot != 0 {
		s += fmt.Sprint(" ", a.Spot)
	}
	for _, w := range a.Warnings {
		s += fmt.Sprintf(" %d,%s,%s", w.Kind, w.Scope, w.Key)
	}
	return strings.TrimRight(s, " ")
}

func TestNew(t *testing.T) { // P30.1
	if d, code := desk.New(); d == nil || code != api.OK || !mshow.Same(d.Map(), api.Map{}) || len(d.Records()) != 0 || d.Asked() != 0 {
		t.Errorf("New of nothing: %d", code)
	}
	if d, code := desk.New(api.Node{Path: "/a/b", Kind: api.File}); d != nil || code != api.ErrTree {
		t.Errorf("New of no tree: %d", code)
	}
	if d, code := desk.New(make([]api.Node, api.MaxNodes+1)...); d != nil || code != api.ErrSize {
		t.Errorf("New of too many nodes: %d", code)
	}
}

func TestRegister(t *testing.T) { // P30.1, P30.3
	d := begun(t)
	for _, c := range []struct{ b, base, want, whole string }{
		{`[`, "data:", "4    (1+2i)", `{"imports":{},"scopes":{},"integrity":{}}`},
		{`{"imports":{"a":"./x.js"}}`, "https://h/d/", "0", `{"imports":{"a":"https://h/d/x.js"},"scopes":{},"integrity":{}}`},
		{`{"imports":{"a":"./y.js","":1,"b":null},"z":1}`, "https://h/d/", "0    1,, 2,,b 5,,z 8,,a", `{"imports":{"b":null,"a":"https://h/d/x.js"},"scopes":{},"integrity":{}}`},
		{`[]`, "https://h/", "7", `{"imports":{"b":null,"a":"https://h/d/x.js"},"scopes":{},"integrity":{}}`},
		{"{\"\xff\":1}", "https://h/", "3    (1+3i)", `{"imports":{"b":null,"a":"https://h/d/x.js"},"scopes":{},"integrity":{}}`},
		{`{}`, "h", "8", `{"imports":{"b":null,"a":"https://h/d/x.js"},"scopes":{},"integrity":{}}`},
		{`[`, "http://\u00e9", "9", `{"imports":{"b":null,"a":"https://h/d/x.js"},"scopes":{},"integrity":{}}`},
		{strings.Repeat(" ", api.MaxBytes+1), "data:", "6", `{"imports":{"b":null,"a":"https://h/d/x.js"},"scopes":{},"integrity":{}}`},
		{strings.Repeat("[", 129), "data:", "5    (1+129i)", `{"imports":{"b":null,"a":"https://h/d/x.js"},"scopes":{},"integrity":{}}`},
		{`{"scopes":{"/s/":{"c":"x:c"}},"integrity":{"x:c":"sha"}}`, "https://h/", "0", `{"imports":{"b":null,"a":"https://h/d/x.js"},"scopes":{"https://h/s/":{"c":"x:c"}},"integrity":{"x:c":"sha"}}`},
	} {
		if got := told(d.Register([]byte(c.b), c.base)); got != c.want {
			t.Errorf("Register(%.30q, %q) = %q", c.b, c.base, got)
		}
		if got := string(mshow.Show(d.Map())); got != c.whole {
			t.Errorf("behind %.30q: %s", c.b, got)
		}
	}
	if d.Asked() != 0 || len(d.Records()) != 0 {
		t.Error("Register asked, or recorded")
	}
}

func TestHTML(t *testing.T) { // P30.2, P30.3
	d := begun(t)
	d.Register([]byte(`{"imports":{"a":"/a.js","b/":"/lib/","n":null,"h":"x:h"},"scopes":{"/s/":{"a":"/s/a.js"}},"integrity":{"/a.js":"sha-a","/q.js":"sha-q"}}`), "https://h/")
	var records []api.Record
	for _, c := range []struct {
		spec, from, want string
		record           api.Record
	}{
		{"a", "https://h/x", "0 https://h/a.js  sha-a", api.Record{Base: "https://h/x", Spec: "a"}}, {"a", "https://h/s/x", "0 https://h/s/a.js", api.Record{Base: "https://h/s/x", Spec: "a"}}, {"b/c", "HTTPS://h:443/x", "0 https://h/lib/c", api.Record{Base: "https://h/x", Spec: "b/c"}}, {"./q.js", "https://h/x", "0 https://h/q.js  sha-q", api.Record{Base: "https://h/x", Spec: "https://h/q.js", URL: true, Special: true}}, {"y:z", "data:", "0 y:z", api.Record{Base: "data:", Spec: "y:z", URL: true}}, {"h", "data:", "0 x:h", api.Record{Base: "data:", Spec: "h"}},
		{"a", "https://h/x", "0 https://h/a.js  sha-a", api.Record{}}, {"/q.js", "https://h/x", "0 https://h/q.js  sha-q", api.Record{}},
		{"b/../c", "https://h/x", "12", api.Record{}}, {"n", "https://h/x", "10", api.Record{}}, {"c", "https://h/x", "11", api.Record{}}, {"http://\u00e9", "https://h/x", "9", api.Record{}}, {"a", "x", "8", api.Record{}}, {"a", "http://\u00e9", "9", api.Record{}}, {"a", "", "8", api.Record{}}, {strings.Repeat("a", api.MaxBytes+1), "data:", "6", api.Record{}}, {"a", strings.Repeat("a", api.MaxBytes+1), "6", api.Record{}},
	} {
		if got := told(d.Resolve(api.HTML, c.spec, c.from)); got != c.want {
			t.Errorf("Resolve(HTML, %.20q, %.20q) = %q", c.spec, c.from, got)
		}
		if c.record != (api.Record{}) {
			records = append(records, c.record)
		}
		if got := d.Records(); !slices.Equal(got, records) {
			t.Errorf("behind %.20q by %.20q: %v", c.spec, c.from, got)
		}
	}
	if got := told(begun(t).Resolve(api.HTML, "a", "data:")); got != "11" {
		t.Errorf("Resolve without a map = %q", got)
	}
	if d.Asked() != 0 {
		t.Error("HTML's way asks nothing")
	}
}

func TestWhatWasResolvedStays(t *testing.T) { // T2
	d := begun(t)
	d.Resolve(api.HTML, "./p/q", "https://h/")
	d.Register([]byte(`{"imports":{"a":"/1"}}`), "https://h/")
	d.Resolve(api.HTML, "a", "https://h/s/x")
	if got := told(d.Register([]byte(`{"imports":{"a":"/2","/p/":"/3/","b":"/4"},"scopes":{"/s/":{"a":"/5","b":"/6"},"/t/":{"a":"/7"}}}`), "https://h/")); got != "0    7,https://h/s/,a 7,,https://h/p/ 7,,a" {
		t.Errorf("Register = %q", got)
	}
	for spec, want := range map[string]string{"a": "0 https://h/1", "b": "0 https://h/6", "/p/q": "0 https://h/p/q", "/p/r": "0 https://h/p/r"} {
		if got := told(d.Resolve(api.HTML, spec, "https://h/s/x")); got != want {
			t.Errorf("Resolve(%q) = %q", spec, got)
		}
	}
	if got := told(d.Resolve(api.HTML, "a", "https://h/t/x")); got != "0 https://h/7" {
		t.Errorf("another scope: %q", got)
	}
}

func TestESMAndCJS(t *testing.T) { // P30.2
	d := begun(t, "/n/a.js=", "/n/node_modules/p/package.json={\"type\":\"module\",\"exports\":{\"c\":\"./c.js\",\"default\":\"./m.js\"}}", "/n/node_modules/p/m.js=", "/n/node_modules/p/c.js=", "/n/d/index.js=", "/n/w.wasm=", "/bad/package.json={", "/bad/x.js=", "/a b/c.json=", "/n/l.mjs->a.js")
	conds := make([]string, api.MaxConds)
	conds[15] = "c"
	for _, c := range []struct {
		way              int
		spec, from, want string
		conds            []string
	}{
		{api.ESM, "p", "file:///n/a.js", "0 file:///n/node_modules/p/m.js module", nil}, {api.ESM, "p", "file:///n/a.js", "0 file:///n/node_modules/p/c.js module", conds}, {api.ESM, "./l.mjs?q", "file:///n/x", "0 file:///n/a.js?q commonjs", nil}, {api.ESM, "http://h/", "data:", "0 http://h/", nil}, {api.ESM, "./w.wasm", "file:///n/a.js", "0 file:///n/w.wasm wasm", nil}, {api.ESM, "./d", "file:///n/a.js", "14", nil}, {api.ESM, "p/m.js", "file:///n/a.js", "18", nil}, {api.ESM, "./x.js", "file:///bad/y", "16", nil}, {api.ESM, "./gone", "file:///n/a.js", "13", nil}, {api.ESM, "a", "b", "8", nil}, {api.ESM, "", "http://\u00e9", "9", nil},
		{api.CJS, "./d", "file:///n/a.js", "0 file:///n/d/index.js commonjs", nil}, {api.CJS, "p", "file:///n/a.js", "0 file:///n/node_modules/p/m.js module", nil}, {api.CJS, "p", "file:///n/a.js?q#f", "0 file:///n/node_modules/p/c.js module", conds}, {api.CJS, "./a%20b/c", "file:///x", "13", nil}, {api.CJS, "./a b/c", "file:///x", "0 file:///a%20b/c.json json", nil}, {api.CJS, "./x.js", "file:///bad/y", "16", nil}, {api.CJS, "./c", "file:///a%20b/y", "0 file:///a%20b/c.json json", nil}, {api.CJS, "./l.mjs", "file:///n/x", "0 file:///n/a.js commonjs", nil},
		{api.CJS, "./d", "http://h/a", "8", nil}, {api.CJS, "./d", "file://h/a", "8", nil}, {api.CJS, "./d", "file:///a%2fb", "15", nil}, {api.CJS, "./d", "file:///", "2", nil}, {api.CJS, "./d", "file:///n/", "2", nil}, {api.CJS, "./d", "n", "8", nil}, {api.CJS, "", "file:///n/a.js", "15", nil}, {api.CJS, "./gone", "file:///n/a.js", "13", nil}, {api.CJS, "#a", "file:///n/a.js", "19", nil},
		{0, "./d", "file:///n/a.js", "2", nil}, {4, "./d", "n", "2", nil}, {-1, "./d", "file:///n/a.js", "2", nil}, {api.ESM, "p", "n", "2", make([]string, api.MaxConds+1)}, {api.HTML, "./d", "file:///n/a.js", "2", make([]string, api.MaxConds+1)}, {api.HTML, "./d", "file:///n/a.js", "0 file:///n/d", conds},
	} {
		if got := told(d.Resolve(c.way, c.spec, c.from, c.conds...)); got != c.want {
			t.Errorf("Resolve(%d, %q, %q, %q) = %q", c.way, c.spec, c.from, c.conds, got)
		}
	}
	if d.Asked() == 0 || len(d.Records()) != 1 || !mshow.Same(d.Map(), api.Map{}) {
		t.Errorf("asked %d times, %d records", d.Asked(), len(d.Records()))
	}
}

func TestAnswersAreNew(t *testing.T) { // P30.3, R4
	d := begun(t)
	b := []byte(`{"imports":{"a":"x:1"},"scopes":{"x:s":{"b":"x:2"}},"integrity":{"x:1":"sha"}}`)
	d.Register(b, "data:")
	for i := range b {
		b[i] = 'z'
	}
	d.Resolve(api.HTML, "a", "data:")
	before := string(mshow.Show(d.Map())) + fmt.Sprint(d.Records())
	m := d.Map()
	m.Imports[0].To, m.Scopes[0].Prefix, m.Scopes[0].Imports[0].Key, m.Integrity[0].To = "z", "z", "z", "z"
	d.Records()[0].Spec = "z"
	_ = append(d.Records(), api.Record{})
	if after := string(mshow.Show(d.Map())) + fmt.Sprint(d.Records()); after != before || !strings.Contains(before, "x:2") {
		t.Errorf("%s is %s", before, after)
	}
}

func TestNothing(t *testing.T) { // R3
	var d *desk.Desk
	for _, a := range []api.Answer{d.Register(nil, ""), d.Resolve(api.HTML, "a", "data:"), d.Resolve(9, "", "")} {
		if !reflect.DeepEqual(a, api.Answer{Code: api.ErrNil}) {
			t.Errorf("%v", a)
		}
	}
	if !mshow.Same(d.Map(), api.Map{}) || d.Records() != nil || d.Asked() != 0 {
		t.Error("a nil desk tells something")
	}
	d = &desk.Desk{}
	d.Register([]byte("{}"), "data:")
	d.Resolve(api.HTML, "x:y", "data:")
	d.Resolve(api.ESM, "./y", "file:///a")
	d.Resolve(api.CJS, "./y", "file:///a")
	d.Asked()
}

func TestLongSession(t *testing.T) { // time
	d := begun(t)
	var b strings.Builder
	b.WriteString(`{"imports":{"k":"x:k"`)
	for i := range 20000 {
		fmt.Fprintf(&b, `,"k%d/":"/"`, i)
	}
	d.Register([]byte(b.String()+"}}"), "http://h/")
	for i := range 500 {
		if a := d.Register(fmt.Appendf(nil, `{"imports":{"m%d":"x:m"},"scopes":{"/s%d/":{"a":"x:a"}}}`, i, i), "http://h/"); len(a.Warnings) != 0 {
			t.Fatalf("%v", a)
		}
		if a := d.Resolve(api.HTML, fmt.Sprintf("k%d/x", i), "http://h/"); a.URL != "http://h/x" {
			t.Fatalf("%v", a)
		}
	}
	if m := d.Map(); len(m.Imports) != 20501 || len(m.Scopes) != 500 || len(d.Records()) != 500 {
		t.Errorf("%d imports, %d scopes, %d records", len(m.Imports), len(m.Scopes), len(d.Records()))
	}
}
