package cjs_test

import (
	"strings"
	"testing"

	"gossamer/api"
	"gossamer/cjs"
	"gossamer/esm"
	"gossamer/file"
	"gossamer/made"
)

func TestAs(t *testing.T) { // P29.1
	s := made.Tree("/a=", "/a.js=", "/b.js=", "/b.json=", "/c.json=", "/c.node=", "/d.node=", "/e/index.js=", "/e/index.json=", "/f/index.json=", "/f/index.node=", "/g/index.node=", "/h/x=", "/l->a", "/m.js->b.json", "/i.js/x=", "/i.json=", "/loop->loop", "/loop.js=", "/z/.js=",
		`/p1/package.json={"main":"x"}`, "/p1/x=", "/p1/x.js=", "/p1/index.js=", `/p2/package.json={"main":"./x"}`, "/p2/x.js=", `/p3/package.json={"main":"x/"}`, "/p3/x/index.json=", `/p4/package.json={"main":"gone"}`, "/p4/index.node=", `/p5/package.json={"main":"gone"}`, `/p6/package.json={"main":""}`, "/p6/index.js=", `/p7/package.json={"main":""}`, `/p8/package.json={`, "/p8/index.js=", `/p9/package.json={"main":1}`, "/p9/index.json=",
		`/q1/package.json={"main":"../a"}`, `/q2/package.json={"main":"x"}`, "/q2/x.node=", "/q2/x/index.js=", "/q2/x.json=", `/q3/package.json={"main":"x"}`, "/q3/x/index.node=", "/q4/package.json->../p1/package.json", "/q4/x=", "/q5/package.json/x=", "/q5/index.js=", "/q6.js=", "/q6/package.json={", `/q7/package.json={"main":"x"}`, "/q7/x/package.json={\"main\":\"y\"}", "/q7/x/y=", `/q8/package.json={"main":"/a"}`, "/q8/a=", `/q9/package.json={"exports":"./z","name":"q9"}`, "/q9/index.js=", "/q9/z=", "/ln->p1", "/r1/package.json={}", "/r1/.js=", `/r2/package.json={"main":"x"}`, "/r2/x.node=", `/r3/package.json={"main":"x"}`, "/r3/x/index.json=", "/r3/xindex.json=", `/r4/package.json={"main":"x"}`, "/r4/x/index.js=", "/r4/x/index.json=", `/r5/package.json={"main":"x"}`, "/r5/x.json=", "/r5/x.node=", `/r6/package.json={"main":"x"}`, "/r6/index.json=", "/r6/index.node=")
	for p, want := range map[string]string{
		"/a": "/a", "/b": "/b.js", "/c": "/c.json", "/d": "/d.node", "/e": "/e/index.js", "/f": "/f/index.json", "/g": "/g/index.node", "/l": "/a", "/m": "/b.json", "/i": "/i.json", "/loop": "/loop.js", "/e/": "/e/index.js", "/a/": "/a", "/h/../b": "/b.js", "/h/x": "/h/x", "/e/index": "/e/index.js", "/z/": "/z/.js", "/e/.": "/e/index.js",
		"/p1": "/p1/x", "/p2": "/p2/x.js", "/p3": "/p3/x/index.json", "/p4": "/p4/index.node", "/p6": "/p6/index.js", "/p9": "/p9/index.json", "/q1": "/a", "/q2": "/q2/x.json", "/q3": "/q3/x/index.node", "/q4": "/q4/x", "/q5": "/q5/index.js", "/q6": "/q6.js", "/q8": "/q8/a", "/q9": "/q9/index.js", "/ln": "/p1/x", "/r2": "/r2/x.node", "/r3": "/r3/x/index.json", "/r4": "/r4/x/index.js", "/r5": "/r5/x.json", "/r6": "/r6/index.json", "/p1/": "/p1/x",
	} {
		if got, ok, code := cjs.As(s, p); got != want || !ok || code != api.OK {
			t.Errorf("As(%q) = %q, %v, %d", p, got, ok, code)
		}
	}
	for p, want := range map[string]api.Errno{
		"/": api.OK, "/h": api.OK, "/r1": api.OK, "/gone": api.OK, "/p7": api.OK, "/a/x": api.OK, "/h/gone/..": api.OK, "/" + strings.Repeat("a", api.MaxBytes): api.OK, "/q5/package.json": api.OK,
		"": api.ErrArg, "a": api.ErrArg, "./a": api.ErrArg, "/p5": api.ErrNone, "/q7": api.ErrNone, "/p8": api.ErrConfig, "/q6/": api.ErrConfig,
	} {
		if got, ok, code := cjs.As(s, p); got != "" || ok || code != want {
			t.Errorf("As(%.20q) = %q, %v, %d", p, got, ok, code)
		}
	}
	for _, p := range []string{"/a", "a"} {
		if got, ok, code := cjs.As(nil, p); got != "" || ok || code != api.ErrNil {
			t.Errorf("As without a tree = %q, %v, %d", got, ok, code)
		}
	}
}

func TestResolve(t *testing.T) { // P29.2
	s := made.Tree("/x.js=", "/d/index.js=", "/d/e.js=", "/d/f/g.js=", "/index.json=", "/a b%.js=", "/x\\y/node_modules/k/index.js=", "/x\\y/z.js=",
		"/n/node_modules/p/index.js=", "/n/node_modules/p/sub.js=", "/n/node_modules/single.js=", `/n/node_modules/m/package.json={"main":"lib"}`, "/n/node_modules/m/lib/index.js=", `/n/node_modules/e/package.json={"main":"x","exports":{".":"./m.js","./*":{"c":"./c/*.js","default":"./d/*.js"},"./dir":"./c","./http":"./%2f"}}`, "/n/node_modules/e/m.js=", "/n/node_modules/e/c/x.js=", "/n/node_modules/e/x=", "/n/node_modules/bad/package.json={", "/n/node_modules/bad/index.js=", `/n/node_modules/gone/package.json={"main":"gone"}`, "/n/node_modules/@s/t/index.js=", "/n/node_modules/file=", "/n/node_modules/l->../../d", "/n/node_modules/empty/x=", "/n/node_modules/node_modules/k/index.js=", "/n/node_modules/q/node_modules/r/index.js=", "/n/node_modules/q/x.js=", "/n/node_modules/a%b/c.js=", "/n/node_modules/.dot/index.js=",
		"/node_modules/p/index.js=", "/node_modules/top/index.js=", "/node_modules/empty/index.js=", "/node_modules/dir/index.js=", `/node_modules/np/package.json={"exports":null,"main":"y"}`, "/node_modules/np/y=", "/m/node_modules->../n/node_modules", "/f/node_modules=",
		`/s/package.json={"name":"self","exports":{".":"./i.js","./n":null,"./gone":"./gone.js"},"imports":{"#i":"./i.js","#p":"p","#u":"u","#d":"./dir"}}`, "/s/i.js=", "/s/dir/x=", "/s/x/y.js=", "/s/node_modules/p/package.json={\"main\":\"m.js\"}", "/s/node_modules/p/m.js=", `/s/node_modules/u/package.json={"main":"http://h/"}`, "/s/node_modules/self/index.js=", "/t/package.json=[", "/t/node_modules/p/index.js=", "/v/package.json={\"name\":\"self\"}", `/w/package.json={"name":"","exports":"./i.js"}`, "/w/i.js=", "/v/node_modules/self/index.js=")
	for _, c := range [][3]string{
		{"./d", "/x.js", "/d/index.js"}, {"./e", "/d/x.js", "/d/e.js"}, {"../x", "/d/y", "/x.js"}, {"../e", "/d/f/g.js", "/d/e.js"}, {"../", "/d/f/g.js", "/d/index.js"}, {"./g", "/d/f/x", "/d/f/g.js"}, {"..", "/d/f/g.js", "/d/index.js"}, {"..", "/d/y", "/index.json"}, {".", "/d/y", "/d/index.js"}, {".", "/y", "/index.json"}, {"./", "/d/y", "/d/index.js"}, {"../", "/d/y", "/index.json"}, {"/x.js", "/d/y", "/x.js"}, {"/x", "/gone/y", "/x.js"}, {"./a b%", "/y", "/a b%.js"}, {"./../x", "/y", "/x.js"}, {"./f/../e", "/d/y", "/d/e.js"}, {"./z", "/x\\y/q", "/x\\y/z.js"}, {"/", "/y", "/index.json"},
		{"p", "/n/a.js", "/n/node_modules/p/index.js"}, {"p", "/n/b/c/a.js", "/n/node_modules/p/index.js"}, {"p/sub", "/n/a.js", "/n/node_modules/p/sub.js"}, {"p/sub.js", "/n/a.js", "/n/node_modules/p/sub.js"}, {"p/", "/n/a.js", "/n/node_modules/p/index.js"}, {"single", "/n/a.js", "/n/node_modules/single.js"}, {"m", "/n/a.js", "/n/node_modules/m/lib/index.js"}, {"m/lib", "/n/a.js", "/n/node_modules/m/lib/index.js"}, {"e", "/n/a.js", "/n/node_modules/e/m.js"}, {"e/x", "/n/a.js", "/n/node_modules/e/c/x.js"}, {"@s/t", "/n/a.js", "/n/node_modules/@s/t/index.js"}, {"file", "/n/a.js", "/n/node_modules/file"}, {"l/e", "/n/a.js", "/d/e.js"}, {"p", "/m/a.js", "/n/node_modules/p/index.js"}, {"p", "/z/a.js", "/node_modules/p/index.js"}, {"top", "/n/b/a.js", "/node_modules/top/index.js"}, {"empty", "/n/a.js", "/node_modules/empty/index.js"}, {"np", "/a.js", "/node_modules/np/y"}, {"p/../e/x", "/n/a.js", "/n/node_modules/e/x"}, {"a%b/c", "/n/a.js", "/n/node_modules/a%b/c.js"}, {".dot", "/n/a.js", "/n/node_modules/.dot/index.js"}, {"p/../../../x", "/n/a.js", "/x.js"}, {"top", "/f/a.js", "/node_modules/top/index.js"},
		{"r", "/n/node_modules/q/x.js", "/n/node_modules/q/node_modules/r/index.js"}, {"p", "/n/node_modules/q/x.js", "/n/node_modules/p/index.js"}, {"p", "/n/node_modules/x.js", "/n/node_modules/p/index.js"}, {"e/", "/n/a.js", "/n/node_modules/e/x"},
		{"self", "/s/x/y.js", "/s/i.js"}, {"p", "/s/x/y.js", "/s/node_modules/p/m.js"}, {"self", "/v/x.js", "/v/node_modules/self/index.js"}, {"#i", "/s/x/y.js", "/s/i.js"}, {"#p", "/s/x/y.js", "/s/node_modules/p/m.js"}, {"self/", "/s/x.js", "/s/node_modules/self/index.js"},
	} {
		if got, code := cjs.Resolve(s, c[0], c[1], "c"); got != c[2] || code != api.OK {
			t.Errorf("Resolve(%q, %q) = %q, %d", c[0], c[1], got, code)
		}
	}
	for _, c := range []struct {
		spec, from string
		code       api.Errno
	}{
		{"./gone", "/x.js", api.ErrNone}, {"./f", "/d/x.js", api.ErrNone}, {"..", "/n/x/y", api.ErrNone}, {"/gone", "/x.js", api.ErrNone}, {"./node_modules/bad", "/n/x.js", api.ErrConfig}, {"./node_modules/gone", "/n/x.js", api.ErrNone}, {"/n/node_modules/gone", "/x.js", api.ErrNone},
		{"gone2", "/n/x.js", api.ErrNone}, {"gone", "/n/x.js", api.ErrNone}, {"bad", "/n/x.js", api.ErrConfig}, {"bad/x", "/n/x.js", api.ErrConfig}, {"e/../p", "/n/x.js", api.ErrSpec}, {"e/gone", "/n/x.js", api.ErrNone}, {"e/dir", "/n/x.js", api.ErrNone}, {"e/http", "/n/x.js", api.ErrSpec}, {"empty", "/s/x.js", api.OK}, {"k", "/n/node_modules/x.js", api.ErrNone}, {"k", "/x\\y/z.js", api.ErrNone}, {"../k", "/x\\y/z.js", api.ErrNone}, {"node:fs", "/x.js", api.ErrNone}, {"http://h/", "/x.js", api.ErrNone}, {"p%2findex.js", "/n/x.js", api.ErrNone}, {"@s", "/n/a.js", api.ErrNone}, {"\x00", "/n/a.js", api.ErrNone},
		{"self/n", "/s/x.js", api.ErrExports}, {"self/z", "/s/x.js", api.ErrExports}, {"self/gone", "/s/x.js", api.ErrNone}, {"p", "/t/x.js", api.ErrConfig}, {"gone/", "/w/x.js", api.ErrNone}, {"%", "/w/x.js", api.ErrNone}, {"./x", "/t/x.js", api.ErrNone}, {"#i", "/n/x.js", api.ErrImports}, {"#", "/s/x.js", api.ErrSpec}, {"#/a", "/s/x.js", api.ErrSpec}, {"#z", "/s/x.js", api.ErrImports}, {"#u", "/s/x.js", api.ErrURL}, {"#d", "/s/x.js", api.ErrNone}, {"#i", "/x\\y/z.js", api.ErrImports},
		{"", "/x.js", api.ErrSpec}, {"", "/", api.ErrArg}, {"./x", "/", api.ErrArg}, {"./x", "", api.ErrArg}, {"./x", "x.js", api.ErrArg}, {"./x", "/d/", api.ErrArg}, {"./x", "/d/../x", api.ErrArg}, {"./x", "//x", api.ErrArg}, {strings.Repeat("a", api.MaxBytes+1), "/", api.ErrSize}, {strings.Repeat("a", api.MaxBytes), "/n/x.js", api.ErrNone}, {"/" + strings.Repeat("a", api.MaxBytes-1), "/n/x.js", api.ErrNone},
	} {
		got, code := cjs.Resolve(s, c.spec, c.from, "c")
		if code != c.code || code != api.OK && got != "" {
			t.Errorf("Resolve(%.20q, %q) = %q, %d", c.spec, c.from, got, code)
		}
	}
	if got, code := cjs.Resolve(s, "e/y", "/n/a.js"); got != "" || code != api.ErrNone {
		t.Errorf("without conditions: %q, %d", got, code)
	}
	for _, spec := range []string{"", strings.Repeat("a", api.MaxBytes+1)} {
		if got, code := cjs.Resolve(nil, spec, "/"); got != "" || code != api.ErrNil {
			t.Errorf("without a tree: %q, %d", got, code)
		}
	}
}

func TestLooks(t *testing.T) { // P29.3
	deep := strings.Repeat("/d", 60)
	texts := []string{"/loop->loop", "/x->y", "/y->x", deep + "/a.js=", "/d/package.json={\"imports\":{\"#a\":\"#a\",\"#b\":\"p\",\"#c\":\"missing\"},\"name\":\"s\",\"exports\":\"./d/d\"}", "/n->" + deep, "/node_modules/last/x="}
	for i := 0; i <= len(deep); i += 2 {
		texts = append(texts, deep[:i]+"/node_modules/far/package.json={\"main\":\"\"}")
	}
	s := made.Tree(texts...)
	for _, from := range []string{"/x.js", deep + "/a.js", deep + deep + "/x", "/n/d/x", strings.Repeat("/x", 30000), "/x\\y/z"} {
		for _, spec := range []string{"#a", "#b", "#c", "p", "far", "far/x", "last", "missing/x", "@a/b", "s", "/loop", "/x", "/n/a.js", ".." + deep, "./a.js", "./gone", deep, "a%b"} {
			was := s.Asked()
			_, code := cjs.Resolve(s, spec, from)
			u, _ := file.URL(from)
			if looks, toll := s.Asked()-was, esm.Toll(s, u); looks > toll {
				t.Errorf("Resolve(%.20q, %.20s), %d: looked %d times, Toll %d", spec, from, code, looks, toll)
			}
		}
	}
}

func TestLongTexts(t *testing.T) { // time
	s := made.Tree("/a/node_modules/p/index.js=", "/a/a/node_modules/q=", "/a/a/a/node_modules/x=")
	for _, spec := range []string{strings.Repeat("p/", api.MaxBytes/2), "p" + strings.Repeat("/.", api.MaxBytes/2-1), "./" + strings.Repeat("../", api.MaxBytes/3-1), strings.Repeat("/", api.MaxBytes)} {
		cjs.Resolve(s, spec, strings.Repeat("/a", 100000))
	}
}
