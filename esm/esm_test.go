package esm_test

import (
	"fmt"
	"strings"
	"testing"

	"gossamer/api"
	"gossamer/esm"
	"gossamer/made"
	"gossamer/tree"
)

func TestResolve(t *testing.T) { // P28.1
	s := made.Tree("/a.mjs=", "/d/x.js=", "/d/y=", "/l.mjs->d/x.js", "/loop->loop", "/a b%.cjs=", "/m/package.json={\"type\":\"module\",\"imports\":{\"#i\":\"./i.js\",\"#p\":\"p\",\"#h\":\"q\"}}", "/m/i.js=", "/m/node_modules/p/package.json={\"exports\":{\".\":\"./p.cjs\",\"./x\":{\"c\":\"./c.wasm\",\"default\":\"./d.json\"},\"./gone\":\"./gone.js\"}}", "/m/node_modules/p/p.cjs=", "/m/node_modules/p/c.wasm=", "/m/node_modules/p/d.json=", "/m/node_modules/q/package.json={\"main\":\"http://h/q\"}", "/m/node_modules/r/r.js=", "/bad/package.json={", "/bad/x.js=", "/bad/x.mjs=", "/link->m", "/c.txt=", "/x\\y.mjs=", "/z->d", "/e/node_modules/p->../../m/node_modules/p")
	for _, c := range []struct {
		spec, from, want, format string
	}{
		{"./a.mjs", "file:///x.js", "file:///a.mjs", "module"}, {"/a.mjs", "file:///q/x.js", "file:///a.mjs", "module"}, {"../a.mjs", "file:///q/x.js", "file:///a.mjs", "module"}, {"file:///a.mjs", "http://h/", "file:///a.mjs", "module"}, {"file:a.mjs", "http://h/", "file:///a.mjs", "module"}, {"./l.mjs?q#f", "file:///x.js", "file:///d/x.js?q#f", "commonjs"}, {"./a.mjs?", "file:///", "file:///a.mjs?", "module"}, {"./a.mjs#", "file:///", "file:///a.mjs#", "module"}, {"./a%20b%25.cjs", "file:///x.js", "file:///a%20b%25.cjs", "commonjs"}, {"./%61.mjs", "file:///", "file:///a.mjs", "module"}, {"./z/x.js", "file:///", "file:///d/x.js", "commonjs"}, {"./z/../a.mjs", "file:///", "file:///a.mjs", "module"},
		{"./d/y", "file:///x.js", "file:///d/y", "commonjs"}, {"./m/i.js", "file:///x.js", "file:///m/i.js", "module"}, {"./link/i.js", "file:///", "file:///m/i.js", "module"}, {"./c.txt", "file:///", "file:///c.txt", ""}, {"./bad/x.mjs", "file:///", "file:///bad/x.mjs", "module"}, {"./a.mjs/", "file:///", "file:///a.mjs", "module"},
		{"http://H/x", "file:///x.js", "http://h/x", ""}, {"node:fs", "file:///x.js", "node:fs", ""}, {"data:text/javascript,", "file:///", "data:text/javascript,", ""}, {"./b", "http://h/a", "http://h/b", ""}, {"//h/b", "https://g/a", "https://h/b", ""}, {" x:y ", "file:///", "x:y", ""}, {"./x.mjs", "http://h/a/", "http://h/a/x.mjs", ""},
		{"#i", "file:///m/x.js", "file:///m/i.js", "module"}, {"#p", "file:///m/x.js", "file:///m/node_modules/p/p.cjs", "commonjs"}, {"#h", "file:///m/x.js", "http://h/q", ""}, {"p", "file:///m/x.js", "file:///m/node_modules/p/p.cjs", "commonjs"}, {"p/x", "file:///m/x.js", "file:///m/node_modules/p/c.wasm", "wasm"}, {"r/r.js?a", "file:///m/x.js", "file:///m/node_modules/r/r.js?a", "commonjs"}, {"p", "file:///e/x.js", "file:///m/node_modules/p/p.cjs", "commonjs"}, {"p", "file:///link/x.js", "file:///m/node_modules/p/p.cjs", "commonjs"},
	} {
		if got, format, code := esm.Resolve(s, c.spec, made.URL(c.from), "c"); got != c.want || format != c.format || code != api.OK {
			t.Errorf("Resolve(%q, %s) = %q, %q, %d", c.spec, c.from, got, format, code)
		}
	}
	for _, c := range []struct {
		spec, from string
		code       api.Errno
	}{
		{"./gone", "file:///x.js", api.ErrNone}, {"./d", "file:///x.js", api.ErrDir}, {"./", "file:///x.js", api.ErrDir}, {"./d/", "file:///x.js", api.ErrDir}, {"./z", "file:///x.js", api.ErrDir}, {"./loop", "file:///x.js", api.ErrLoop}, {"./loop/x", "file:///x.js", api.ErrLoop}, {"./a.mjs/x", "file:///x.js", api.ErrNone}, {"file:///a%2fb", "file:///", api.ErrSpec}, {"./a%5Cb", "file:///x.js", api.ErrSpec}, {"./a%5cb", "http://h/", api.OK}, {"file://h/a.mjs", "file:///", api.ErrURL}, {"//h/a", "file:///", api.ErrURL}, {"./x", "data:", api.ErrURL}, {"/x", "x:o", api.ErrURL}, {"//", "http://h/", api.ErrURL}, {"//\u00e9", "http://h/", api.ErrHost}, {"http://\u00e9", "file:///", api.ErrHost}, {"./A.mjs", "file:///", api.ErrNone}, {"/x%5Cy.mjs", "file:///", api.ErrSpec},
		{"./bad/x.js", "file:///", api.ErrConfig}, {"p", "file:///bad/x.js", api.ErrConfig}, {"#i", "file:///x.js", api.ErrImports}, {"#", "file:///m/x.js", api.ErrSpec}, {"#z", "file:///m/x.js", api.ErrImports}, {"", "file:///m/x.js", api.ErrSpec}, {".", "file:///m/x.js", api.ErrSpec}, {"..", "file:///m/x.js", api.ErrSpec}, {"p/gone", "file:///m/x.js", api.ErrNone}, {"p/z", "file:///m/x.js", api.ErrExports}, {"r", "file:///m/x.js", api.ErrDir}, {"q/x", "file:///m/x.js", api.ErrNone}, {"gone", "file:///m/x.js", api.ErrNone}, {"p", "http://h/", api.ErrNone}, {"\\a", "file:///", api.ErrSpec}, {"http://", "file:///m/x.js", api.ErrSpec}, {"?q", "file:///m/x.js", api.ErrNone}, {strings.Repeat("a", api.MaxBytes+1), "file:///", api.ErrSize}, {strings.Repeat("a", api.MaxBytes), "file:///", api.ErrNone},
	} {
		got, format, code := esm.Resolve(s, c.spec, made.URL(c.from), "c")
		if code != c.code || code != api.OK && (got != "" || format != "") {
			t.Errorf("Resolve(%.20q, %s) = %q, %q, %d", c.spec, c.from, got, format, code)
		}
	}
	if got, format, code := esm.Resolve(s, "p/x", made.URL("file:///m/x.js")); got != "file:///m/node_modules/p/d.json" || format != "json" || code != api.OK {
		t.Errorf("without conditions: %q, %q, %d", got, format, code)
	}
	for _, spec := range []string{"http://h/", strings.Repeat("a", api.MaxBytes+1)} {
		if got, format, code := esm.Resolve(nil, spec, made.URL("file:///")); got != "" || format != "" || code != api.ErrNil {
			t.Errorf("without a tree: %q, %q, %d", got, format, code)
		}
	}
}

func TestPackageExamples(t *testing.T) { // the whole's examples 5, 6
	s := made.Tree("/n/a.js=", "/n/node_modules/p/package.json={\"exports\":\"./m.js\"}", "/n/node_modules/p/m.js=")
	if got, format, code := esm.Resolve(s, "p", made.URL("file:///n/a.js")); got != "file:///n/node_modules/p/m.js" || format != "commonjs" || code != api.OK {
		t.Errorf("%q, %q, %d", got, format, code)
	}
	if got, _, code := esm.Resolve(s, "p/m.js", made.URL("file:///n/a.js")); got != "" || code != api.ErrExports {
		t.Errorf("%q, %d", got, code)
	}
}

func TestFormat(t *testing.T) { // P28.2
	s := made.Tree("/m/package.json={\"type\":\"module\"}", "/c/package.json={\"type\":\"commonjs\"}", "/n/package.json={}", "/b/package.json=[]", "/m/node_modules/x=", "/m/sub/x=")
	for u, want := range map[string]string{
		"file:///m/a.js": "module", "file:///m/a": "module", "file:///m/.js": "module", "file:///m/.mjs": "module", "file:///m/.cjs": "module", "file:///m/sub/a.js": "module", "file:///m/a.cjs": "commonjs", "file:///m/a.json": "json", "file:///m/a.wasm": "wasm", "file:///m/a.ts": "", "file:///m/a.": "", "file:///m/a.JS": "", "file:///m/a.mjs.txt": "", "file:///m/.a.mjs": "module", "file:///m/a.b.js": "module", "file:///m/": "module", "file:///m/a.js?x.cjs#y.cjs": "module", "file:///m.x/a": "commonjs", "file:///m/node_modules/a.js": "commonjs",
		"file:///c/a.js": "commonjs", "file:///c/a.mjs": "module", "file:///c/a": "commonjs", "file:///n/a.js": "commonjs", "file:///n/a": "commonjs", "file:///x/a.js": "commonjs", "file:///b/a.mjs": "module", "file:///b/a.json": "json", "file:///b/a.txt": "", "http://h/a.js": "commonjs", "http://h/a.mjs": "module", "file:///m/a.%6as": "", "file:///m/..js": "module",
	} {
		if got, code := esm.Format(s, made.URL(u)); got != want || code != api.OK {
			t.Errorf("Format(%s) = %q, %d", u, got, code)
		}
	}
	for _, u := range []string{"file:///b/a.js", "file:///b/a", "file:///b/.mjs"} {
		if got, code := esm.Format(s, made.URL(u)); got != "" || code != api.ErrConfig {
			t.Errorf("Format(%s) = %q, %d", u, got, code)
		}
	}
	esm.Format(s, api.URL{})
}

func TestToll(t *testing.T) { // P28.3
	s := made.Tree("/a/b/c=", "/d=")
	for u, want := range map[string]int{"file:///": 32*4 + 256, "file:///x/y": 32*5 + 256, "http://h/a/b": 32*3 + 256, "data:": 32*3 + 256, "file:///a%2fb": 32*3 + 256, "file:///a//b/": 32*7 + 256} {
		if got := esm.Toll(s, made.URL(u)); got != want {
			t.Errorf("Toll(%s) = %d", u, got)
		}
	}
	if s.Asked() != 0 {
		t.Error("Toll looked at the tree")
	}
	if got := esm.Toll(made.Tree(), made.URL("file:///a")); got != 32*2+256 {
		t.Errorf("Toll of an empty tree = %d", got)
	}
}

func TestLooks(t *testing.T) { // P28.3
	deep := strings.Repeat("/d", 60)
	texts := []string{"/loop->loop", "/x->y", "/y->x", deep + "/a.js=", "/d/package.json={\"imports\":{\"#a\":\"#a\",\"#b\":\"p\",\"#c\":\"missing\"},\"name\":\"s\",\"exports\":\"./d/d\"}", "/d/node_modules/p->p", "/d/node_modules/q->../d", "/d/d/package.json->../package.json", "/n->" + deep, "/up->/up/up"}
	s := made.Tree(texts...)
	for _, from := range []string{"file:///x.js", "file://" + deep + "/a.js", "file://" + deep + deep + deep + "/x", "http://h/" + deep, "file:///n/d/x", "file://" + strings.Repeat("/x", 60000)} {
		for _, spec := range []string{"#a", "#b", "#c", "p", "q", "missing/x", "@a/b", "s", "/loop", "/x", "/n/a.js", "/up", ".." + deep, "./a.js", "q/d/d/d", "file://" + deep + "/a.js"} {
			was := s.Asked()
			_, _, code := esm.Resolve(s, spec, made.URL(from))
			if looks, toll := s.Asked()-was, esm.Toll(s, made.URL(from)); looks > toll {
				t.Errorf("Resolve(%.20q, %.20s), %d: looked %d times, Toll %d", spec, from, code, looks, toll)
			}
		}
	}
}

func TestManyNodes(t *testing.T) { // time
	texts := make([]string, 0, api.MaxNodes)
	for i := range api.MaxNodes / 2 {
		texts = append(texts, fmt.Sprintf("/node_modules/p%d/index.mjs=", i))
	}
	var nodes []api.Node
	nodes = append(nodes, api.Node{Path: "/node_modules", Kind: api.Dir})
	for i := range len(texts) - 1 {
		nodes = append(nodes, api.Node{Path: fmt.Sprintf("/node_modules/p%d", i), Kind: api.Dir}, api.Node{Path: fmt.Sprintf("/node_modules/p%d/index.mjs", i), Kind: api.File})
	}
	s, code := tree.New(nodes...)
	if code != api.OK {
		t.Fatal(code)
	}
	from := made.URL("file:///a/b/c/d.js")
	for i := range 2000 {
		spec := fmt.Sprintf("p%d/index.mjs", i)
		if got, format, code := esm.Resolve(s, spec, from); got != "file:///node_modules/"+spec || format != "module" || code != api.OK {
			t.Fatalf("%q, %q, %d", got, format, code)
		}
	}
}
