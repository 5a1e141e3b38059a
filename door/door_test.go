package door_test

import (
	"strconv"
	"strings"
	"testing"

	"gossamer/aim"
	"gossamer/api"
	"gossamer/door"
	"gossamer/made"
	"gossamer/url"
)

func folder(t *testing.T) api.URL {
	t.Helper()
	u, code := url.Parse("file:///p/")
	if code != api.OK {
		t.Fatal(code)
	}
	return u
}

func found(s string) aim.Led { return aim.Led{Kind: aim.Found, URL: "file:///p/" + s} }
func away(s string) aim.Led  { return aim.Led{Kind: aim.Away, Spec: s} }

type one struct {
	key, in string
	want    aim.Led
	code    api.Errno
}

func TestPick(t *testing.T) { // P26.1
	undefined, nothing := aim.Led{}, aim.Led{Kind: aim.Nothing}
	for _, c := range []one{
		{"./a", `{"./a":"./x"}`, found("x"), api.OK}, {"./b", `{"./a":"./x"}`, undefined, api.OK}, {"./a", `{"./a":null}`, nothing, api.OK}, {"./a", `{"./a":{}}`, undefined, api.OK}, {"./a", `{"./a":"x"}`, undefined, api.ErrTarget}, {"./a", `{"./a":{"c":"./c","default":"./d"}}`, found("c"), api.OK}, {"./a", `{"./a":{"0":1}}`, undefined, api.ErrConfig},
		{"./a/", `{"./a/":"./x"}`, nothing, api.OK}, {"./a/", `{"./*":"./x/*"}`, nothing, api.OK}, {"/", `{}`, nothing, api.OK}, {"./a/", `[]`, undefined, api.OK}, {"./a", `["./a"]`, undefined, api.OK}, {"./a", `"./a"`, undefined, api.OK}, {"./a", `null`, undefined, api.OK},
		{"./a/b", `{"./*":"./x/*","./a/*":"./y/*"}`, found("y/b"), api.OK}, {"./a/b", `{"./a/*":null,"./*":"./x/*"}`, nothing, api.OK}, {"./a", `{"./a*":"./x","./*":"./y/*"}`, found("y/a"), api.OK}, {"./a", `{"./*":"./y/*","./a":"./x"}`, found("x"), api.OK}, {"./a", `{"./*":"./y/*","./a":null}`, nothing, api.OK}, {"./a", `{"./*":"./y/*","./a":{}}`, undefined, api.OK},
		{"./a*", `{"./a*":"./x"}`, found("x"), api.OK}, {"./a*", `{"./b":"./x"}`, undefined, api.OK}, {"./a*", `{"./*":"./x/*"}`, found("x/a*"), api.OK}, {"./a**", `{"./a*":"./x/*"}`, found("x/**"), api.OK}, {"./*", `{"./*":"./x/*"}`, found("x/*"), api.OK}, {"./a", `{"./a*":"./x*"}`, undefined, api.OK}, {"./..", `{"./*":"./x/*"}`, undefined, api.ErrSpec}, {"./a.js", `{"./*.js":"./x/*.mjs","./*":null}`, found("x/a.mjs"), api.OK}, {"./a", `{"./*":"./*/*.js"}`, found("a/a.js"), api.OK}, {"./a*b", `{"./a*b":"./x","./a**":"./y"}`, found("x"), api.OK}, {"./a**", `{"./a**":"./x"}`, undefined, api.OK}, {"./z", `{"":"./x"}`, undefined, api.OK},
		{"", `{"":"./x"}`, found("x"), api.OK}, {"#a", `{"#a":"q"}`, undefined, api.ErrTarget}, {"./a", `{"./a":["q","./x"]}`, found("x"), api.OK},
	} {
		if got, code := door.Pick(folder(t), c.key, made.Value(c.in), false, "c"); got != c.want || code != c.code {
			t.Errorf("Pick(%q, %s) = %v, %d", c.key, c.in, got, code)
		}
	}
	if got, code := door.Pick(folder(t), "#a/b", made.Value(`{"#a/*":"q/*"}`), true); got != away("q/b") || code != api.OK {
		t.Errorf("Pick of imports: %v, %d", got, code)
	}
}

func TestExports(t *testing.T) { // P26.2
	for _, c := range []one{
		{".", `"./m.js"`, found("m.js"), api.OK}, {".", `["q","./m.js"]`, found("m.js"), api.OK}, {".", `{"c":"./c.js","default":"./d.js"}`, found("c.js"), api.OK}, {".", `{".":"./m.js"}`, found("m.js"), api.OK}, {".", `{"./a":"./x",".":{"c":"./m.js"}}`, found("m.js"), api.OK}, {".", `{"default":{"default":"./m.js"}}`, found("m.js"), api.OK}, {".", `{".":["q",null,"./m.js"]}`, found("m.js"), api.OK}, {".", `{".":"./*"}`, found("*"), api.OK},
		{"./x", `{"./*":"./l/*.js"}`, found("l/x.js"), api.OK}, {"./a", `{"./a":"./x",".":"./m"}`, found("x"), api.OK}, {"./package.json", `{"./package.json":"./package.json"}`, found("package.json"), api.OK}, {".x", `{".x":"./x"}`, found("x"), api.OK},
	} {
		if got, code := door.Exports(folder(t), c.key, made.Value(c.in), "c"); got != c.want || code != c.code {
			t.Errorf("Exports(%q, %s) = %v, %d", c.key, c.in, got, code)
		}
	}
	for _, c := range []one{
		{".", `null`, aim.Led{}, api.ErrExports}, {".", `true`, aim.Led{}, api.ErrExports}, {".", `1`, aim.Led{}, api.ErrExports}, {".", `{}`, aim.Led{}, api.ErrExports}, {".", `[]`, aim.Led{}, api.ErrExports}, {".", `{"./a":"./x"}`, aim.Led{}, api.ErrExports}, {".", `{".":null}`, aim.Led{}, api.ErrExports}, {".", `{"z":"./x"}`, aim.Led{}, api.ErrExports}, {".", `{"./*":"./x/*"}`, aim.Led{}, api.ErrExports}, {".", `{".*":"./x"}`, aim.Led{}, api.ErrExports}, {".", `[null]`, aim.Led{}, api.ErrExports},
		{".", `"m.js"`, aim.Led{}, api.ErrTarget}, {".", `"./"`, aim.Led{}, api.ErrTarget}, {".", `{".":"../m.js"}`, aim.Led{}, api.ErrTarget}, {".", `{"default":1}`, aim.Led{}, api.ErrTarget}, {".", `["q"]`, aim.Led{}, api.ErrTarget}, {".", `{"0":"./x"}`, aim.Led{}, api.ErrConfig}, {".", `{".":{"0":"./x"}}`, aim.Led{}, api.ErrConfig},
		{".", `{".":"./m.js","c":"./x"}`, aim.Led{}, api.ErrConfig}, {"./a", `{"./a":"./x","c":"./x"}`, aim.Led{}, api.ErrConfig}, {"./a/", `{"":1,".":1}`, aim.Led{}, api.ErrConfig},
		{"./x", `"./m.js"`, aim.Led{}, api.ErrExports}, {"./x", `["./m.js"]`, aim.Led{}, api.ErrExports}, {"./x", `{"default":"./x"}`, aim.Led{}, api.ErrExports}, {"./x", `{}`, aim.Led{}, api.ErrExports}, {"./x", `null`, aim.Led{}, api.ErrExports}, {"./x", `{"./y":"./x"}`, aim.Led{}, api.ErrExports}, {"./x", `{"./x":null}`, aim.Led{}, api.ErrExports}, {"./x", `{"./x":{"z":"./x"}}`, aim.Led{}, api.ErrExports}, {"./x/", `{"./x/":"./x"}`, aim.Led{}, api.ErrExports}, {"./x", `{"./x":"x"}`, aim.Led{}, api.ErrTarget}, {"./..", `{"./*":"./x/*"}`, aim.Led{}, api.ErrSpec}, {"x", `{"x":"./x"}`, aim.Led{}, api.ErrExports},
	} {
		if got, code := door.Exports(folder(t), c.key, made.Value(c.in), "c"); got != c.want || code != c.code {
			t.Errorf("Exports(%q, %s) = %v, %d", c.key, c.in, got, code)
		}
	}
}

func TestImports(t *testing.T) { // P26.3
	for _, c := range []one{
		{"#a", `{"#a":"./x"}`, found("x"), api.OK}, {"#a", `{"#a":"q"}`, away("q"), api.OK}, {"#a/b", `{"#a/*":"q/*"}`, away("q/b"), api.OK}, {"#a/b", `{"#*":"./x/*"}`, found("x/a/b"), api.OK}, {"#a", `{"#a":{"c":"q","default":"./x"}}`, away("q"), api.OK}, {"#a", `{"#a":["../q","q"]}`, away("q"), api.OK}, {"#a#", `{"#a#":"./x"}`, found("x"), api.OK},
		{"#", `{"#":"./x"}`, aim.Led{}, api.ErrSpec}, {"#/", `{"#/":"./x"}`, aim.Led{}, api.ErrSpec}, {"#/a", `{"#/*":"./x"}`, aim.Led{}, api.ErrSpec}, {"#/a", `[]`, aim.Led{}, api.ErrSpec},
		{"#a", `{}`, aim.Led{}, api.ErrImports}, {"#a", `{"#b":"./x"}`, aim.Led{}, api.ErrImports}, {"#a", `{"#a":null}`, aim.Led{}, api.ErrImports}, {"#a", `{"#a":{"z":"./x"}}`, aim.Led{}, api.ErrImports}, {"#a/", `{"#a/":"./x"}`, aim.Led{}, api.ErrImports}, {"#a", `[]`, aim.Led{}, api.ErrImports}, {"#a", `null`, aim.Led{}, api.ErrImports}, {"#a", `{"#a":[]}`, aim.Led{}, api.ErrImports},
		{"#a", `{"#a":"../q"}`, aim.Led{}, api.ErrTarget}, {"#a", `{"#a":"/q"}`, aim.Led{}, api.ErrTarget}, {"#a", `{"#a":"x:q"}`, aim.Led{}, api.ErrTarget}, {"#a", `{"#a":1}`, aim.Led{}, api.ErrTarget}, {"#a", `{"#a":{"3":"q"}}`, aim.Led{}, api.ErrConfig}, {"#a/..", `{"#a/*":"./x/*"}`, aim.Led{}, api.ErrSpec},
	} {
		if got, code := door.Imports(folder(t), c.key, made.Value(c.in), "c"); got != c.want || code != c.code {
			t.Errorf("Imports(%q, %s) = %v, %d", c.key, c.in, got, code)
		}
	}
}

func TestAnyValue(t *testing.T) { // R1
	v := api.Value{Kind: api.Object, K: []string{".", "./*", "#a"}}
	door.Pick(api.URL{}, ".", v, false)
	door.Pick(api.URL{}, "./x", v, false)
	door.Exports(api.URL{}, ".", v)
	door.Imports(api.URL{}, "#a", v)
}

func TestMany(t *testing.T) { // time
	var b strings.Builder
	b.WriteString(`{"./z":"./z"`)
	for i := range 20000 {
		b.WriteString(`,"./a` + strconv.Itoa(i) + `/*":"./*"`)
	}
	b.WriteString("}")
	v := made.Value(b.String())
	for range 50 {
		if got, code := door.Exports(folder(t), "./a19999/x", v); got != found("x") || code != api.OK {
			t.Fatalf("%v, %d", got, code)
		}
	}
}
