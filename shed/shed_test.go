package shed_test

import (
	"reflect"
	"strings"
	"testing"

	"gossamer/api"
	"gossamer/made"
	"gossamer/shed"
	"gossamer/ushow"
)

func show(u api.URL) string {
	if reflect.DeepEqual(u, api.URL{}) {
		return ""
	}
	return ushow.Show(u)
}

func TestKind(t *testing.T) { // P27.1
	s := made.Tree("/a/f=x", "/l->a/f", "/d->a", "/loop->loop", "/a b=", "/x\\y=")
	for u, want := range map[string]int{
		"file:///": api.Dir, "file:///a": api.Dir, "file:///a/": api.Dir, "file:///a/f": api.File, "file:///a/f/": api.File, "file:///l": api.File, "file:///d/f?q#r": api.File, "file:///d": api.Dir, "file:///a%20b": api.File, "file:///%61": api.Dir, "file:///a//f": api.File,
		"file:///c": 0, "file:///loop": 0, "file:///a/f/g": 0, "file://h/a": 0, "http://h/a": 0, "file:///a%2ff": 0, "file:///x%5Cy": 0, "data:a": 0,
	} {
		if got := shed.Kind(s, made.URL(u)); got != want {
			t.Errorf("Kind(%s) = %d", u, got)
		}
	}
	if shed.Kind(nil, made.URL("file:///")) != 0 {
		t.Error("Kind without a tree")
	}
}

func TestRead(t *testing.T) { // P27.1
	s := made.Tree(`/a/package.json={"name":"a"}`, "/b/package.json->../a/package.json", "/c/package.json={", "/d/package.json/x=", "/e/f=", `/package.json={"type":"module"}`, "/g->a", "/h/package.json->nowhere", `/x\y/package.json={}`)
	for folder, want := range map[string]api.Package{"file:///a/": {Name: "a", HasName: true}, "file:///b/": {Name: "a", HasName: true}, "file:///g/": {Name: "a", HasName: true}, "file:///": {Type: "module"}} {
		if got, ok, code := shed.Read(s, made.URL(folder)); !reflect.DeepEqual(got, want) || !ok || code != api.OK {
			t.Errorf("Read(%s) = %v, %v, %d", folder, got, ok, code)
		}
	}
	for _, folder := range []string{"file:///d/", "file:///e/", "file:///e/f/", "file:///nowhere/", "file:///h/", "http://h/", "file://h/", "data:", "file:///x%5Cy/", "file:///%2f/"} {
		if got, ok, code := shed.Read(s, made.URL(folder)); !reflect.DeepEqual(got, api.Package{}) || ok || code != api.OK {
			t.Errorf("Read(%s) = %v, %v, %d", folder, got, ok, code)
		}
	}
	if got, ok, code := shed.Read(s, made.URL("file:///c/")); !reflect.DeepEqual(got, api.Package{}) || !ok || code != api.ErrConfig {
		t.Errorf("Read of what is wrong = %v, %v, %d", got, ok, code)
	}
	if got, ok, code := shed.Read(nil, made.URL("file:///")); !reflect.DeepEqual(got, api.Package{}) || ok || code != api.ErrNil {
		t.Errorf("Read without a tree = %v, %v, %d", got, ok, code)
	}
}

func TestScope(t *testing.T) { // P27.2
	s := made.Tree("/package.json={}", "/a/package.json={", "/a/b/c=", "/a/node_modules/package.json={}", "/a/node_modules/p/package.json={}", "/a/node_modules/q/r=", "/d/package.json/x=", "/e->a", "/f g/package.json={}", "/h/node_modules_/x=")
	for from, want := range map[string]string{
		"file:///": "file:///", "file:///x": "file:///", "file:///a": "file:///", "file:///a/": "file:///a/", "file:///a/b/c": "file:///a/", "file:///a/b/c/d/e": "file:///a/", "file:///a/node_modules/p/x": "file:///a/node_modules/p/", "file:///a/node_modules/p/x/y": "file:///a/node_modules/p/", "file:///d/x": "file:///", "file:///d/package.json/y": "file:///", "file:///e/x": "file:///e/", "file:///f%20g/x?q": "file:///f%20g/", "file:///a//b/c": "file:///a/", "file:///node_modules": "file:///", "file:///h/node_modules_/x": "file:///", "file:///NODE_MODULES/x": "file:///",
	} {
		if got, ok := shed.Scope(s, made.URL(from)); show(got) != want || !ok || !ushow.May(got) {
			t.Errorf("Scope(%s) = %s, %v", from, show(got), ok)
		}
	}
	for _, from := range []string{"file:///a/node_modules/x", "file:///a/node_modules/q/x", "file:///a/node_modules/", "file:///node_modules/x", "file:///node_modules/a/b/c", "http://h/a", "file://h/a/b", "file:///a%2fb/c", "data:"} {
		if got, ok := shed.Scope(s, made.URL(from)); show(got) != "" || ok {
			t.Errorf("Scope(%s) = %s, %v", from, show(got), ok)
		}
	}
	if got, ok := shed.Scope(made.Tree("/a/b="), made.URL("file:///a/b")); show(got) != "" || ok {
		t.Error("Scope without a package.json")
	}
	if got, ok := shed.Scope(nil, made.URL("file:///a/b")); show(got) != "" || ok {
		t.Error("Scope without a tree")
	}
}

func TestSplit(t *testing.T) { // P27.3
	for spec, want := range map[string][2]string{
		"a": {"a", "."}, "a/b": {"a", "./b"}, "a/b/c": {"a", "./b/c"}, "@a/b": {"@a/b", "."}, "@a/b/c": {"@a/b", "./c"}, "@a/b/c/d": {"@a/b", "./c/d"}, "@/b": {"@/b", "."}, "a//b": {"a", ".//b"}, "a/.b": {"a", "./.b"}, "a/%5c\\": {"a", "./%5c\\"}, "a@b": {"a@b", "."}, "a.b": {"a.b", "."}, "@a/.b": {"@a/.b", "."}, "@a/..": {"@a/..", "."}, "#a": {"#a", "."}, " ": {" ", "."}, "a/..": {"a", "./.."}, "@@/@": {"@@/@", "."}, "\xff": {"\xff", "."},
	} {
		if name, rest, code := shed.Split(spec); [2]string{name, rest} != want || code != api.OK {
			t.Errorf("Split(%q) = %q, %q, %d", spec, name, rest, code)
		}
	}
	for _, spec := range []string{"", "/", "/a", "@", "@a", "@/", "@a/", "@a//", "@a//b", "@//b", ".", "..", "./a", ".a", ".a/b", "a\\b", "a%b", "a\\b/c", "%/c", "a/", "a/b/", "@a/b/", "@a/b/c/", "@a\\/b", "@a/b%", "@a/b\\/c", "a//", "@%/b/c"} {
		if name, rest, code := shed.Split(spec); name != "" || rest != "" || code != api.ErrSpec {
			t.Errorf("Split(%q) = %q, %q, %d", spec, name, rest, code)
		}
	}
}

type asked struct {
	spec, from, want string
	code             api.Errno
}

func TestFind(t *testing.T) { // P27.4
	s := made.Tree("/n/a.js=", "/n/node_modules/p/m.js=", "/n/node_modules/q/package.json={\"main\":\"lib/m.js\"}", "/n/node_modules/e/package.json={\"main\":\"x\",\"exports\":{\".\":\"./m.js\",\"./*\":{\"c\":\"./c/*.js\",\"default\":\"./d/*.js\"}}}", "/n/node_modules/bad/package.json=[", "/n/node_modules/file=", "/n/node_modules/@s/t/package.json={\"exports\":\"./t.js\"}",
		"/n/node_modules/l->../real", "/n/real/x=", "/n/node_modules/here->nowhere", "/n/node_modules/u/package.json={\"main\":\"http://h/x\"}", "/n/node_modules/v/package.json={\"main\":\"//\\u00e9\"}", "/n/node_modules/w/package.json={\"main\":\"\"}", "/n/node_modules/y/package.json={\"main\":\"../../z\"}",
		"/node_modules/p/up=", "/node_modules/top/x=", "/n/d/node_modules/node_modules/k/x=", "/n/node_modules/#h/x=", "/n/node_modules/a b/x=", "/n/node_modules/none/package.json={\"exports\":null,\"main\":\"m\"}",
		"/s/package.json={\"name\":\"self\",\"exports\":{\".\":\"./i.js\",\"./n\":null}}", "/s/x/y.js=", "/s/node_modules/self/package.json={}", "/s/node_modules/o/package.json={}", "/t/package.json={", "/t/node_modules/p/x=", "/v/package.json={\"name\":\"self\"}", "/v/node_modules/self/x=", "/w/package.json={\"exports\":\"./i.js\"}", "/w/node_modules/x/y=", "/x/package.json={\"name\":\"\",\"exports\":\"./i.js\"}")
	for _, c := range []asked{
		{"p", "file:///n/a.js", "file:///n/node_modules/p/", api.OK}, {"p/m.js", "file:///n/a.js", "file:///n/node_modules/p/m.js", api.OK}, {"p/m.js", "file:///n/b/c/a.js", "file:///n/node_modules/p/m.js", api.OK}, {"p/nothing?q#f", "file:///n/a.js", "file:///n/node_modules/p/nothing?q#f", api.OK}, {"p", "file:///m/a.js", "file:///node_modules/p/", api.OK}, {"top/x", "file:///n/b/c/a.js", "file:///node_modules/top/x", api.OK}, {"p/../../x", "file:///n/a.js", "file:///n/x", api.OK}, {"p/%2f", "file:///n/a.js", "file:///n/node_modules/p/%2f", api.OK}, {"p//x", "file:///n/a.js", "file:///n/node_modules/p//x", api.OK},
		{"q", "file:///n/a.js", "file:///n/node_modules/q/lib/m.js", api.OK}, {"q/x", "file:///n/a.js", "file:///n/node_modules/q/x", api.OK}, {"e", "file:///n/a.js", "file:///n/node_modules/e/m.js", api.OK}, {"e/x", "file:///n/a.js", "file:///n/node_modules/e/c/x.js", api.OK}, {"@s/t", "file:///n/a.js", "file:///n/node_modules/@s/t/t.js", api.OK}, {"l/x", "file:///n/a.js", "file:///n/node_modules/l/x", api.OK}, {"u", "file:///n/a.js", "http://h/x", api.OK}, {"w", "file:///n/a.js", "file:///n/node_modules/w/", api.OK}, {"y", "file:///n/a.js", "file:///n/z", api.OK}, {"none", "file:///n/a.js", "file:///n/node_modules/none/m", api.OK}, {"a b/x", "file:///n/a.js", "file:///n/node_modules/a%20b/x", api.OK}, {"#h/x", "file:///n/a.js", "file:///n/node_modules/%23h/x", api.OK},
		{"k/x", "file:///n/d/node_modules/a.js", "file:///n/d/node_modules/node_modules/k/x", api.OK}, {"p/m.js", "file:///n/node_modules/q/a.js", "file:///n/node_modules/p/m.js", api.OK}, {"p", "file:///", "file:///node_modules/p/", api.OK},
		{"", "file:///n/a.js", "", api.ErrSpec}, {"./p", "file:///n/a.js", "", api.ErrSpec}, {"p/", "file:///n/a.js", "", api.ErrSpec}, {"p%", "http://h/", "", api.ErrSpec}, {"p", "http://h/", "", api.ErrNone}, {"p", "file:///a%2fb", "", api.ErrNone}, {"p", "data:", "", api.ErrNone}, {"missing", "file:///n/a.js", "", api.ErrNone}, {"file", "file:///n/a.js", "", api.ErrNone}, {"here", "file:///n/a.js", "", api.ErrNone}, {"@s/..", "file:///n/a.js", "", api.ErrNone}, {"@s/.", "file:///n/a.js", "", api.ErrNone}, {"@s/u", "file:///n/a.js", "", api.ErrNone},
		{"bad", "file:///n/a.js", "", api.ErrConfig}, {"bad/x", "file:///n/a.js", "", api.ErrConfig}, {"@s/t/x", "file:///n/a.js", "", api.ErrExports}, {"v", "file:///n/a.js", "", api.ErrHost}, {"e/..", "file:///n/a.js", "", api.ErrSpec}, {"e//x", "file:///n/a.js", "", api.ErrSpec},
		{"self", "file:///s/x/y.js", "file:///s/i.js", api.OK}, {"self", "file:///s/", "file:///s/i.js", api.OK}, {"self/n", "file:///s/y.js", "", api.ErrExports}, {"self/z", "file:///s/y.js", "", api.ErrExports}, {"o/x", "file:///s/y.js", "file:///s/node_modules/o/x", api.OK}, {"p", "file:///t/y.js", "", api.ErrConfig}, {"self/x", "file:///v/y.js", "file:///v/node_modules/self/x", api.OK}, {"x/y", "file:///w/y.js", "file:///w/node_modules/x/y", api.OK}, {"self", "file:///s/node_modules/o/z.js", "file:///s/node_modules/self/", api.OK}, {"i", "file:///w/y.js", "", api.ErrNone},
	} {
		if got, code := shed.Find(s, c.spec, made.URL(c.from), "c"); show(got) != c.want || code != c.code {
			t.Errorf("Find(%q, %s) = %s, %d", c.spec, c.from, show(got), code)
		}
	}
	if got, code := shed.Find(s, "e/x", made.URL("file:///n/a.js")); show(got) != "file:///n/node_modules/e/d/x.js" || code != api.OK {
		t.Errorf("Find without conditions = %s, %d", show(got), code)
	}
	if got, code := shed.Find(nil, "", made.URL("file:///n/a.js")); show(got) != "" || code != api.ErrNil {
		t.Errorf("Find without a tree = %s, %d", show(got), code)
	}
	if got, code := shed.Find(made.Tree(), "a", made.URL("file:///x")); show(got) != "" || code != api.ErrNone {
		t.Errorf("Find in an empty tree = %s, %d", show(got), code)
	}
}

func TestInner(t *testing.T) { // P27.5
	s := made.Tree(`/n/package.json={"imports":{"#a":"./a.js","#b":"p","#b/*":"p/*","#c":{"c":"./c.js","default":"q"},"#bad":"../x","#gone":"missing","#self":"n","#wrong":"%","#null":null,"#ring":"#ring"},"name":"n","exports":"./n.js"}`, "/n/d/e.js=", "/n/node_modules/p/package.json={\"main\":\"m.js\"}", "/n/d/node_modules/p/x=", "/m/package.json={}", "/l/package.json={", "/k/x=", "/j/package.json={\"imports\":[]}", "/n/node_modules/#ring/x=")
	for _, c := range []asked{
		{"#a", "file:///n/d/e.js", "file:///n/a.js", api.OK}, {"#b", "file:///n/d/e.js", "file:///n/node_modules/p/m.js", api.OK}, {"#b/x", "file:///n/d/e.js", "file:///n/node_modules/p/x", api.OK}, {"#c", "file:///n/x", "file:///n/c.js", api.OK}, {"#self", "file:///n/x", "file:///n/n.js", api.OK}, {"#ring", "file:///n/x", "file:///n/node_modules/%23ring/", api.OK},
		{"#", "file:///n/x", "", api.ErrSpec}, {"#/", "file:///k/x", "", api.ErrSpec}, {"#", "file:///k/x", "", api.ErrSpec}, {"#", "http://h/", "", api.ErrSpec}, {"#/a", "http://h/", "", api.ErrSpec}, {"#a", "file:///k/x", "", api.ErrImports}, {"#a", "http://h/", "", api.ErrImports}, {"#a", "file:///n/node_modules/x", "", api.ErrImports}, {"#a", "file:///m/x", "", api.ErrImports}, {"#a", "file:///j/x", "", api.ErrImports}, {"#a", "file:///l/x", "", api.ErrConfig}, {"#z", "file:///n/x", "", api.ErrImports}, {"#null", "file:///n/x", "", api.ErrImports}, {"#bad", "file:///n/x", "", api.ErrTarget}, {"#gone", "file:///n/x", "", api.ErrNone}, {"#wrong", "file:///n/x", "", api.ErrSpec}, {"#b/..", "file:///n/x", "file:///n/node_modules/", api.OK},
	} {
		if got, code := shed.Inner(s, c.spec, made.URL(c.from), "c"); show(got) != c.want || code != c.code {
			t.Errorf("Inner(%q, %s) = %s, %d", c.spec, c.from, show(got), code)
		}
	}
	if got, code := shed.Inner(nil, "#", made.URL("file:///n/x")); show(got) != "" || code != api.ErrNil {
		t.Errorf("Inner without a tree = %s, %d", show(got), code)
	}
}

func TestLongTexts(t *testing.T) { // P27.4, and time
	s := made.Tree(`/n/package.json={"imports":{"#*":"`+strings.Repeat("*", 1<<19)+`"}}`, `/n/node_modules/p/package.json={"exports":{"./*":"./x.js?*"}}`)
	long := strings.Repeat("x", 1<<19)
	if _, code := shed.Find(s, long+"/y", made.URL("file://"+strings.Repeat("/n", 200000))); code != api.ErrNone {
		t.Errorf("long texts: %d", code)
	}
	if _, code := shed.Inner(s, "#"+long, made.URL("file:///n/x")); code == api.OK {
		t.Error("a specifier that is too long for all")
	}
	got, code := shed.Find(s, "p/"+strings.Repeat("\u00e9", 400000), made.URL("file:///n/x"))
	if code != api.OK || strings.Join(got.Path, "/") != "n/node_modules/p/x.js" || got.Query != strings.Repeat("%C3%A9", 400000) || !got.HasQuery || got.HasFragment || got.Port != -1 || got.Host.Kind != api.Empty {
		t.Errorf("what is longer than it was: %d, %q", code, got.Path)
	}
}
