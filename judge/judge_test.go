package judge_test

import (
	"fmt"
	"math/rand"
	"strconv"
	"strings"
	"testing"

	"gossamer/api"
	"gossamer/judge"
	"gossamer/script"
)

func all(b []byte) [4]bool {
	return [4]bool{judge.Stays(b), judge.Same(b), judge.Ends(b), judge.Lies(b)}
}

func check(t *testing.T, b []byte) {
	t.Helper()
	if got := all(b); got != [4]bool{true, true, true, true} {
		t.Errorf("Stays, Same, Ends, Lies = %v of\n%s", got, b)
	}
}

func line(kind int, texts ...string) script.Line { return script.Line{Kind: kind, Texts: texts} }

func show(t *testing.T, ls ...script.Line) []byte {
	t.Helper()
	b, code := script.Show(ls...)
	if code != api.OK {
		t.Fatalf("%v: %d", ls, code)
	}
	return b
}

func TestRefused(t *testing.T) { // P32.1
	for _, s := range []string{"", "x", "html =a =data:\n", "dir =a\n", "file =%2Fa%2Fb =\n", strings.Repeat("\n", api.MaxBytes+1), strings.Repeat("html = =\n", api.MaxOps+1), "\xff\n"} {
		check(t, []byte(s))
	}
}

func TestSessions(t *testing.T) { // P32.2
	check(t, show(t, line(script.KHTML, "a", "data:")))
	check(t, show(t,
		line(script.KDir, "/n"), line(script.KFile, "/n/x\\y.mjs", ""), line(script.KLink, "/n/l", "x\\y.mjs"), line(script.KFile, "/n/a b?#%.js", ""), line(script.KLink, "/n/r", "r"),
		line(script.KESM, "./n/l?q#f", "file:///x"), line(script.KESM, "./n/a%20b%3F%23%25.js#f?q", "file:///x"), line(script.KESM, "./n/r", "file:///x"), line(script.KCJS, "./l", "file:///n/x"), line(script.KESM, "http://h/", "http://h/"), line(script.KESM, "a", "nothing"), line(script.KCJS, "a", "http://h/a/b/c"),
	))
	check(t, show(t,
		line(script.KMap, `{"imports":{"a":"/1","b/":"/b/","//\u00e9/":"/c/","./d":null,"x:e/":"/e/"},"scopes":{"/s/":{"a":"/2"}},"integrity":{"/1":"sha"}}`, "http://h/"),
		line(script.KHTML, "a", "http://h/"), line(script.KHTML, "b/c", "http://h/s/t"), line(script.KHTML, "./e", "http://h/"), line(script.KHTML, "x:e/f", "http://h/"),
		line(script.KMap, `{"imports":{"a":"/3","b/c":"/4","/e":"/5","x:e/f":"/6","n":"/7"},"scopes":{"/":{"a":"/8","b/c":"/9"},"/s/t":{"b/":"/10/","q":"/11"}}}`, "http://h/"),
		line(script.KHTML, "a", "http://h/s/"), line(script.KHTML, "q", "http://h/s/t"), line(script.KMap, "{", "data:"), line(script.KMap, "{}", "x"),
	))
}

func TestLongMap(t *testing.T) { // P32.1: a map that is longer than what is read
	var l []string
	for i := range 200 {
		l = append(l, fmt.Sprintf(`"k%d":"./x"`, i))
	}
	check(t, show(t, line(script.KMap, `{"imports":{`+strings.Join(l, ",")+`}}`, "http://h/"+strings.Repeat("a/", 5000)), line(script.KHTML, "k7", "http://h/")))
}

// maker makes scripts of few names, so that what they tell meets.
type maker struct {
	r *rand.Rand
}

func (m maker) one(of ...string) string { return of[m.r.Intn(len(of))] }

func (m maker) path(most int) string {
	s := ""
	for range 1 + m.r.Intn(most) {
		s += "/" + m.one("a", "b", "node_modules", "p", "@s", "index.js", "package.json", "x.mjs", "d", "l", "..", ".", "")
	}
	return s
}

func (m maker) object(key func() string, value func() string) string {
	var l []string
	for range m.r.Intn(5) {
		l = append(l, strconv.Quote(key())+":"+value())
	}
	return "{" + strings.Join(l, ",") + "}"
}

func (m maker) target(deep int) string {
	switch n := m.r.Intn(9); {
	case n == 0:
		return "null"
	case n == 1 && deep > 0:
		return "[" + m.target(deep-1) + "," + m.target(deep-1) + "]"
	case n == 2 && deep > 0:
		return m.object(func() string { return m.one("c", "default", "import", "0") }, func() string { return m.target(deep - 1) })
	}
	return strconv.Quote(m.one("./x.mjs", "./*", "./a/*", "./index.js", "../x", "./node_modules/p", "p", "#a", "./", "p/*", "/x", "x:y", "./l"))
}

func (m maker) config() string {
	if m.r.Intn(8) == 0 {
		return m.one("{", "[]", "", `{"main":1}`)
	}
	exports := m.target(2)
	if m.r.Intn(2) == 0 {
		exports = m.object(func() string { return m.one(".", "./a", "./*", "./x.mjs", "c") }, func() string { return m.target(2) })
	}
	s := `{"name":` + strconv.Quote(m.one("p", "q", "@s/p")) + `,"main":` + strconv.Quote(m.one("x.mjs", "", "l", "../p", "gone", "http://h/")) + `,"type":` + strconv.Quote(m.one("module", "commonjs", "x"))
	if m.r.Intn(2) == 0 {
		s += `,"exports":` + exports
	}
	if m.r.Intn(2) == 0 {
		s += `,"imports":` + m.object(func() string { return m.one("#a", "#b", "#*", "#a/*", "#") }, func() string { return m.target(2) })
	}
	return s + "}"
}

func (m maker) tree() []script.Line {
	var ls []script.Line
	dirs := []string{""}
	seen := map[string]int{}
	for range m.r.Intn(40) {
		p := dirs[m.r.Intn(len(dirs))] + "/" + m.one("a", "b", "node_modules", "p", "@s", "index.js", "package.json", "package.json", "x.mjs", "d", "l", "a.js", "#", "q\\r")
		if seen[p]++; seen[p] > 1 {
			continue
		}
		switch {
		case strings.HasSuffix(p, "package.json"):
			ls = append(ls, line(script.KFile, p, m.config()))
		case strings.Contains(p[strings.LastIndexByte(p, '/'):], "."):
			ls = append(ls, line(script.KFile, p, ""))
		case strings.HasSuffix(p, "/l"):
			ls = append(ls, line(script.KLink, p, m.one("/", ".", "..", "l", "a", "x.mjs", "/a/l", "../l", "node_modules/p", m.path(4))))
		default:
			ls = append(ls, line(script.KDir, p))
			dirs = append(dirs, p)
		}
	}
	return ls
}

func (m maker) spec() string {
	return m.one("a", "b/", "b/c", "b/../c", "./a", "./b/", "../x", "/a", "/b/c", "http://h/a", "http://h/b/", "x:a/", "x:a/b", "//\u00e9", "p", "p/a", "@s/p", "@s/p/x.mjs", "#a", "#a/b", "#b", ".", "..", "./l", "./x.mjs", "./d", "", "\uff21", "\U0001f600", "%", "."+m.path(5), m.path(5))
}

func (m maker) from() string {
	return m.one("http://h/", "http://h/a", "http://h/b/c", "data:", "x:o", "x:/a/b", "file:///", "nothing", "file://h/a", "file://"+m.path(7), "file://"+m.path(9), "file://"+m.path(3)+"?q#f")
}

func (m maker) importMap() string {
	value := func() string {
		if m.r.Intn(6) == 0 {
			return m.one("null", "1")
		}
		return strconv.Quote(m.one("/1", "/2/", "./3/", "x:4", "x:5/", "http://h/6/", "data:7/", "8", "http://k/?/", "file:///a/"))
	}
	part := func() string { return m.object(m.spec, value) }
	s := `{"imports":` + part() + `,"scopes":` + m.object(m.from, part) + `,"integrity":` + part() + "}"
	return strings.NewReplacer(`\x00`, "", `\U0001f600`, `\ud83d\ude00`).Replace(s)
}

func (m maker) script() []script.Line {
	ls := m.tree()
	for range m.r.Intn(30) {
		switch m.r.Intn(4) {
		case 0:
			ls = append(ls, line(script.KMap, m.importMap(), m.from()))
		case 1:
			ls = append(ls, line(script.KHTML, m.spec(), m.from()))
		case 2:
			ls = append(ls, line(script.KESM, m.spec(), m.from(), "c"))
		default:
			ls = append(ls, line(script.KCJS, m.spec(), m.from()))
		}
	}
	return ls
}

func TestManySessions(t *testing.T) { // P32.2
	answered := map[string]int{}
	for seed := range 1000 {
		m := maker{rand.New(rand.NewSource(int64(seed)))}
		b := show(t, m.script()...)
		check(t, b)
		told, code := script.Run(b)
		answered["run "+fmt.Sprint(code)]++
		for _, s := range told {
			answered[s[:strings.IndexByte(s, ' ')]]++
		}
		if t.Failed() {
			return
		}
	}
	for _, code := range []string{"run 0", "0", "2", "8", "10", "11", "12", "13", "14", "15", "16", "17", "18", "19", "20"} {
		if answered[code] == 0 {
			t.Errorf("no answer was %s: %v", code, answered)
		}
	}
	t.Log(answered)
}

func TestLongSession(t *testing.T) { // P32.2, and time
	var ls []script.Line
	deep := strings.Repeat("/d", 90)
	for i := 2; i <= len(deep); i += 2 {
		ls = append(ls, line(script.KDir, deep[:i]))
	}
	ls = append(ls, line(script.KDir, "/node_modules"), line(script.KDir, "/node_modules/p"), line(script.KFile, "/node_modules/p/package.json", "{}"), line(script.KFile, "/node_modules/p/index.js", ""))
	for i := range 150 {
		ls = append(ls, line(script.KESM, "p/index.js", "file://"+deep+"/x"), line(script.KCJS, "p", "file://"+deep+"/x"), line(script.KCJS, "gone", "file://"+deep+deep+"/x"))
		ls = append(ls, line(script.KMap, fmt.Sprintf(`{"imports":{"k%d/":"/"}}`, i), "http://h/"), line(script.KHTML, fmt.Sprintf("k%d/x", i), "http://h/"))
	}
	b := show(t, ls...)
	if told, code := script.Run(b); code != api.OK || len(told) != 750 {
		t.Fatalf("%d answers, %d", len(told), code)
	}
	check(t, b)
}
