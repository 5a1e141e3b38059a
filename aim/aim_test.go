package aim_test

import (
	"slices"
	"strconv"
	"strings"
	"testing"

	"gossamer/aim"
	"gossamer/api"
	"gossamer/made"
	"gossamer/url"
	"gossamer/ushow"
)

func found(s string) aim.Led { return aim.Led{Kind: aim.Found, URL: s} }
func away(s string) aim.Led  { return aim.Led{Kind: aim.Away, Spec: s} }

func TestKinds(t *testing.T) { // P25.1
	if aim.Undefined != 0 || aim.Nothing != 1 || aim.Found != 2 || aim.Away != 3 {
		t.Error("the kinds have other numbers")
	}
}

func TestBad(t *testing.T) { // P25.1
	for _, s := range []string{"", ".", "..", "/", "a/", "/a", "a//b", "a/./b", "a/../b", "node_modules", "a/node_modules/b", "NODE_Modules", "%6eode%5Fmodules", "%2e", "%2E.", "a\\", "\\", "a\\..\\b", "a\\\\b", "a/%2E%2e", "%4E%4F%44%45%5F%4D%4F%44%55%4C%45%53", "a\\node_modules", "./", "a/."} {
		if !aim.Bad(s) {
			t.Errorf("%q is bad", s)
		}
	}
	for _, s := range []string{"a", "a/b", "...", ".a", "a.", "node_module", "node_modules_", "xnode_modules", "%2e%2e%2e", "a%2f..", "%2f", "..%5c..", "%", "%252e", " ", " .", "a?b", "a/b\\c", "node%20modules", "\u00e9/\xff", "%2", strings.Repeat("node_modules", 99), "%00", "..a"} {
		if aim.Bad(s) {
			t.Errorf("%q is not bad", s)
		}
	}
}

func TestWithin(t *testing.T) { // P25.1
	for _, c := range []struct {
		folder, u string
		want      bool
	}{
		{"file:///p/", "file:///p/a", true}, {"file:///p/", "file:///p/", true}, {"file:///p/", "file:///p/a/b/c", true}, {"file:///p/", "file:///p", false}, {"file:///p/", "file:///", false}, {"file:///p/", "file:///q/a", false}, {"file:///p/", "file:///pp/a", false}, {"file:///p/", "file:///P/a", false}, {"file:///", "file:///a", true}, {"file:///", "file:///", true}, {"file:///", "file:///a/b", true},
		{"file:///p/", "file:///p//a", true}, {"file:///p/", "file:///p/a//", true}, {"file:///p/", "file:///p/a?q#f", true}, {"file:///p/", "file:///p/node_modules", false}, {"file:///p/", "file:///p/a/node_modules/b", false}, {"file:///p/", "file:///p/a/Node%5FModules/b", false}, {"file:///p/node_modules/q/", "file:///p/node_modules/q/a", true}, {"file:///p/node_modules/q/", "file:///p/node_modules/q/node_modules/a", false},
		{"file:///p/", "file://h/p/a", false}, {"file://h/p/", "file://h/p/a", true}, {"file:///p/", "http://h/p/a", false}, {"http://h/p/", "http://h:81/p/a", false}, {"http://h/p/", "http://u@h/p/a", false}, {"http://h/p/", "http://:w@h/p/a", false}, {"http://h/p/", "https://h/p/a", false}, {"http://h/p/", "http://g/p/a", false}, {"http://u:w@h:81/p/", "http://u:w@h:81/p/a", true}, {"file:///a/b/", "file:///a/c/b/d", false}, {"file:///p/", "file:///p/a%2f..", true}, {"file:///p/", "file:///p/..%5c", true},
	} {
		if got := aim.Within(made.URL(c.folder), made.URL(c.u)); got != c.want {
			t.Errorf("Within(%s, %s) = %v", c.folder, c.u, got)
		}
	}
	u := made.URL("file:///p/a")
	u.Path = []string{"p", ".."}
	if aim.Within(made.URL("file:///p/"), u) {
		t.Error("a part of dots leads out")
	}
	u.Path = []string{"p", "%2E"}
	if aim.Within(made.URL("file:///p/"), u) {
		t.Error("a part of a dot is none")
	}
	aim.Within(api.URL{}, api.URL{}) // R1
}

func TestTexts(t *testing.T) { // P25.2
	for _, c := range []struct {
		folder, target, star string
		has, inner           bool
		want                 aim.Led
		code                 api.Errno
	}{
		{"file:///p/", "./a.js", "", false, false, found("file:///p/a.js"), api.OK}, {"file:///p/", "./a.js", "", false, true, found("file:///p/a.js"), api.OK}, {"file:///p/", "./a/b?q#f", "", false, false, found("file:///p/a/b?q#f"), api.OK}, {"file:///", "./a b", "", false, false, found("file:///a%20b"), api.OK}, {"file:///p/", "./a*b", "x", false, false, found("file:///p/a*b"), api.OK}, {"file:///p/", "./a%2f..", "", false, false, found("file:///p/a%2f.."), api.OK}, {"file:///p/node_modules/q/", "./a", "", false, false, found("file:///p/node_modules/q/a"), api.OK}, {"file:///p/", "./c:", "", false, false, found("file:///p/c:"), api.OK},
		{"file:///p/", "./../a.js", "", false, false, aim.Led{}, api.ErrTarget}, {"file:///p/", "./", "", false, false, aim.Led{}, api.ErrTarget}, {"file:///p/", "./a/", "", false, false, aim.Led{}, api.ErrTarget}, {"file:///p/", ".//a", "", false, false, aim.Led{}, api.ErrTarget}, {"file:///p/", "./a/../b", "", false, false, aim.Led{}, api.ErrTarget}, {"file:///p/", "./node_modules/a", "", false, false, aim.Led{}, api.ErrTarget}, {"file:///p/", "./a\\..\\b", "", false, false, aim.Led{}, api.ErrTarget}, {"file:///p/", "./%2e%2e/a", "", false, true, aim.Led{}, api.ErrTarget},
		{"file:///p/", "./\t../a", "", false, false, aim.Led{}, api.ErrTarget}, {"file:///p/", "./node\n_modules/a", "", false, false, aim.Led{}, api.ErrTarget}, {"file:///p/", "./a/.\r./../b", "", false, false, aim.Led{}, api.ErrTarget},
		{"file:///p/", "a", "", false, false, aim.Led{}, api.ErrTarget}, {"file:///p/", "", "", false, false, aim.Led{}, api.ErrTarget}, {"file:///p/", ".", "", false, false, aim.Led{}, api.ErrTarget}, {"file:///p/", "../a", "", false, false, aim.Led{}, api.ErrTarget}, {"file:///p/", "/a", "", false, false, aim.Led{}, api.ErrTarget}, {"file:///p/", "http://h/", "", false, false, aim.Led{}, api.ErrTarget}, {"file:///p/", ".\\a", "", false, false, aim.Led{}, api.ErrTarget},
		{"file:///p/", "a", "", false, true, away("a"), api.OK}, {"file:///p/", "a/b", "", false, true, away("a/b"), api.OK}, {"file:///p/", "", "", false, true, away(""), api.OK}, {"file:///p/", ".", "", false, true, away("."), api.OK}, {"file:///p/", "..", "", false, true, away(".."), api.OK}, {"file:///p/", "#a", "", false, true, away("#a"), api.OK}, {"file:///p/", "a*/*", "x", true, true, away("ax/x"), api.OK}, {"file:///p/", "a*", "x", false, true, away("a*"), api.OK}, {"file:///p/", "*", "../x", true, true, away("../x"), api.OK}, {"file:///p/", "http://\u00e9", "", false, true, away("http://\u00e9"), api.OK}, {"file:///p/", "*", "", true, true, away(""), api.OK},
		{"file:///p/", "../a", "", false, true, aim.Led{}, api.ErrTarget}, {"file:///p/", "/a", "", false, true, aim.Led{}, api.ErrTarget}, {"file:///p/", "http://h", "", false, true, aim.Led{}, api.ErrTarget}, {"file:///p/", "node:fs", "", false, true, aim.Led{}, api.ErrTarget}, {"file:///p/", " x:*", "", true, true, aim.Led{}, api.ErrTarget}, {"file:///p/", "//h", "", false, true, aim.Led{}, api.ErrTarget},
		{"file:///p/", "./*", "a", true, false, found("file:///p/a"), api.OK}, {"file:///p/", "./*/*.js", "a/b", true, false, found("file:///p/a/b/a/b.js"), api.OK}, {"file:///p/", "./a", "x/y", true, false, found("file:///p/a"), api.OK}, {"file:///p/", "./*", "a b?c", true, false, found("file:///p/a%20b?c"), api.OK}, {"file:///p/", "./*?*#*", "x", true, false, found("file:///p/x?x#x"), api.OK}, {"file:///p/", "./x*", "*", true, false, found("file:///p/x*"), api.OK}, {"file:///p/", "./*", "\u00e9", true, true, found("file:///p/%C3%A9"), api.OK}, {"file:///p/", "./*", "a%2f..", true, false, found("file:///p/a%2f.."), api.OK},
		{"file:///p/", "./*", "", true, false, aim.Led{}, api.ErrSpec}, {"file:///p/", "./*", "..", true, false, aim.Led{}, api.ErrSpec}, {"file:///p/", "./*", "a/../b", true, false, aim.Led{}, api.ErrSpec}, {"file:///p/", "./*", "a/", true, false, aim.Led{}, api.ErrSpec}, {"file:///p/", "./*", "node_modules", true, false, aim.Led{}, api.ErrSpec}, {"file:///p/", "./a", "%2E", true, false, aim.Led{}, api.ErrSpec}, {"file:///p/", "./*", "\t..", true, false, aim.Led{}, api.ErrSpec}, {"file:///p/", "./.*", ".", true, false, aim.Led{}, api.ErrSpec}, {"file:///p/", "./.*/q", ".\t", true, false, aim.Led{}, api.ErrSpec}, {"file:///p/", "./n*", "ode_modules", true, false, aim.Led{}, api.ErrSpec}, {"file:///p/", "./.*", "%2e", true, false, aim.Led{}, api.ErrSpec},
		{"file:///p/", "./../*", "..", true, false, aim.Led{}, api.ErrTarget}, {"file:///p*/", "./a", "x", true, false, aim.Led{}, api.ErrSpec}, {"file:///p*/", "./a", "*", true, false, found("file:///p*/a"), api.OK}, {"file:///p*/", "./a", "x", false, false, found("file:///p*/a"), api.OK},
	} {
		target := api.Value{Kind: api.String, S: c.target}
		if got, code := aim.Resolve(made.URL(c.folder), target, c.star, c.has, c.inner); got != c.want || code != c.code {
			t.Errorf("Resolve(%s, %q, %q, %v, %v) = %v, %d", c.folder, c.target, c.star, c.has, c.inner, got, code)
		}
	}
}

func TestLists(t *testing.T) { // P25.2
	a, b := found("file:///p/a"), found("file:///p/b")
	undefined, nothing := aim.Led{}, aim.Led{Kind: aim.Nothing}
	for _, c := range []struct {
		target string
		conds  []string
		want   aim.Led
		code   api.Errno
	}{
		{`null`, nil, nothing, api.OK}, {`true`, nil, undefined, api.ErrTarget}, {`1`, nil, undefined, api.ErrTarget}, {`false`, []string{"x"}, undefined, api.ErrTarget},
		{`{}`, nil, undefined, api.OK}, {`{"default":"./a"}`, nil, a, api.OK}, {`{"x":"./a"}`, nil, undefined, api.OK}, {`{"x":"./a","default":"./b"}`, nil, b, api.OK}, {`{"x":"./a","default":"./b"}`, []string{"y", "x"}, a, api.OK}, {`{"default":"./b","x":"./a"}`, []string{"x"}, b, api.OK}, {`{"y":"./b","x":"./a"}`, []string{"x", "y"}, b, api.OK}, {`{"":"./a"}`, []string{""}, a, api.OK}, {`{"X":"./a"}`, []string{"x"}, undefined, api.OK},
		{`{"x":{"y":"./a"},"default":"./b"}`, []string{"x"}, b, api.OK}, {`{"x":{"y":"./a"},"default":"./b"}`, []string{"x", "y"}, a, api.OK}, {`{"x":null,"default":"./b"}`, []string{"x"}, nothing, api.OK}, {`{"x":1,"default":"./b"}`, []string{"x"}, undefined, api.ErrTarget}, {`{"x":[],"default":"./b"}`, []string{"x"}, nothing, api.OK}, {`{"x":[{}],"default":"./b"}`, []string{"x"}, b, api.OK}, {`{"z":1,"default":"./b"}`, []string{"x"}, b, api.OK},
		{`{"0":"./a","default":"./b"}`, nil, undefined, api.ErrConfig}, {`{"default":"./b","7":"./a"}`, nil, undefined, api.ErrConfig}, {`{"default":"./b","07":"./a"}`, nil, b, api.OK}, {`{"x":{"1":2},"default":"./b"}`, nil, b, api.OK}, {`{"x":{"1":2},"default":"./b"}`, []string{"x"}, undefined, api.ErrConfig}, {`{"4294967295":1,"default":"./b"}`, nil, b, api.OK},
		{`[]`, nil, nothing, api.OK}, {`["./a","./b"]`, nil, a, api.OK}, {`["q","./b"]`, nil, b, api.OK}, {`["q"]`, nil, undefined, api.ErrTarget}, {`[null,"./b"]`, nil, b, api.OK}, {`[null]`, nil, nothing, api.OK}, {`[{}]`, nil, undefined, api.OK}, {`[{},{}]`, nil, undefined, api.OK}, {`[null,"q"]`, nil, undefined, api.ErrTarget}, {`["q",null]`, nil, nothing, api.OK}, {`["q",{}]`, nil, undefined, api.ErrTarget}, {`[null,{}]`, nil, nothing, api.OK}, {`[{},"./b"]`, nil, b, api.OK},
		{`[{"1":0},"./b"]`, nil, undefined, api.ErrConfig}, {`["q",{"1":0}]`, nil, undefined, api.ErrConfig}, {`[["q",null],"q",["./b"]]`, nil, b, api.OK}, {`[[],1]`, nil, undefined, api.ErrTarget}, {`[1,[]]`, nil, nothing, api.OK}, {`["./a",{"1":0}]`, nil, a, api.OK}, {`[{"default":"q"},{"default":null},{"x":1}]`, nil, nothing, api.OK},
		{strings.Repeat("[", 128) + `"./a"` + strings.Repeat("]", 128), nil, a, api.OK},
	} {
		target := made.Value(c.target)
		if got, code := aim.Resolve(made.URL("file:///p/"), target, "", false, false, c.conds...); got != c.want || code != c.code {
			t.Errorf("Resolve(%.80s, %q) = %v, %d", c.target, c.conds, got, code)
		}
	}
	spec := made.Value(`["./*","./b"]`)
	if got, code := aim.Resolve(made.URL("file:///p/"), spec, "..", true, false); got != undefined || code != api.ErrSpec {
		t.Errorf("a wrong star in an array: %v, %d", got, code)
	}
	if got, code := aim.Resolve(made.URL("file:///p/"), made.Value(`[1,"q*","./b"]`), "x", true, true); got != away("qx") || code != api.OK {
		t.Errorf("away in an array: %v, %d", got, code)
	}
}

func TestFoundIsWithin(t *testing.T) { // P25.3
	parts := []string{".", "..", "/", "\\", "*", "a", "%2e", "node_modules", "\t", "?", "#", "%2f", ":", "c|"}
	folder := made.URL("file:///n/node_modules/p/")
	stars := []string{"a", "..", "a/b", "/", "%2e", "\t..", "?", "#", "\\", "de_modules", "", "*"}
	var try func(s string, deep int)
	try = func(s string, deep int) {
		for _, star := range stars {
			for _, has := range []bool{true, false} {
				led, _ := aim.Resolve(folder, api.Value{Kind: api.String, S: s}, star, has, true)
				if led.Kind != aim.Found {
					continue
				}
				if u, code := url.Parse(led.URL); code != api.OK || !aim.Within(folder, u) || ushow.Show(u) != led.URL {
					t.Errorf("%q with %q leads to %q", s, star, led.URL)
				}
			}
		}
		if deep > 0 {
			for _, p := range parts {
				try(s+p, deep-1)
			}
		}
	}
	try("./", 4)
}

func TestSizes(t *testing.T) { // R1, P25.2
	folder := made.URL("file:///p/")
	half := strings.Repeat("x", 1<<19)
	stars := strings.Repeat("*", 1<<19)
	if got, code := aim.Resolve(folder, api.Value{Kind: api.String, S: "./" + stars}, half, true, false); got != (aim.Led{}) || code != api.ErrSpec {
		t.Errorf("too many stars: %.20v, %d", got, code)
	}
	if got, code := aim.Resolve(folder, api.Value{Kind: api.String, S: "./*"}, half, true, false); got.URL != "file:///p/"+half || code != api.OK {
		t.Errorf("a long star: %d", code)
	}
	fits := strings.Repeat("x", api.MaxBytes-len("file:///p/"))
	if _, code := aim.Resolve(folder, api.Value{Kind: api.String, S: "./*"}, fits, true, false); code != api.OK {
		t.Errorf("MaxBytes: %d", code)
	}
	if _, code := aim.Resolve(folder, api.Value{Kind: api.String, S: "./*"}, fits+"x", true, false); code != api.ErrSpec {
		t.Errorf("one byte more: %d", code)
	}
	if _, code := aim.Resolve(folder, api.Value{Kind: api.String, S: stars}, half, true, true); code == api.OK {
		t.Error("what nobody has room for is told")
	}
	many := api.Value{Kind: api.Array}
	obj := api.Value{Kind: api.Object}
	for i := range 100000 {
		many.L = append(many.L, api.Value{Kind: api.String, S: "q"})
		obj.K = append(obj.K, "k"+strconv.Itoa(i))
		obj.L = append(obj.L, many.L[0])
	}
	if _, code := aim.Resolve(folder, many, "x", true, false); code != api.ErrTarget {
		t.Errorf("a long array: %d", code)
	}
	conds := slices.Repeat([]string{"c"}, 50000)
	if got, code := aim.Resolve(folder, obj, "x", true, false, conds...); got != (aim.Led{}) || code != api.OK {
		t.Errorf("a long object: %v, %d", got, code)
	}
}

func TestRings(t *testing.T) { // R1
	ring := api.Value{Kind: api.Array, L: make([]api.Value, 2)}
	ring.L[0], ring.L[1] = ring, ring
	aim.Resolve(api.URL{}, ring, "", false, false)
	obj := api.Value{Kind: api.Object, K: []string{"default"}, L: make([]api.Value, 1)}
	obj.L[0] = obj
	aim.Resolve(api.URL{}, obj, "", false, false)
	aim.Resolve(api.URL{}, api.Value{Kind: api.Object, K: []string{"default"}}, "", false, false)
}

func TestArgumentsStay(t *testing.T) { // R4
	conds := append(make([]string, 0, 9), "x", "y")
	aim.Resolve(made.URL("file:///p/"), made.Value(`{"x":["./a"]}`), "s", true, true, conds...)
	if !slices.Equal(conds, []string{"x", "y"}) || slices.Contains(conds[:9], "default") {
		t.Error("Resolve changed what was handed in")
	}
}
