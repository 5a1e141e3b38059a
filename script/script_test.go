package script_test

import (
	"fmt"
	"reflect"
	"slices"
	"strings"
	"testing"

	"gossamer/api"
	"gossamer/script"
)

func TestWordAndRead(t *testing.T) { // P31.1
	for s, want := range map[string]string{"": "=", "a b": "=a%20b", "aZ09-._~": "=aZ09-._~", "azAZ019": "=azAZ019", "/:@[`{": "=%2F%3A%40%5B%60%7B", "%=+/:\n\t": "=%25%3D%2B%2F%3A%0A%09", "\x00\x7f\xff": "=%00%7F%FF", "\u00e9": "=%C3%A9", "@[`{": "=%40%5B%60%7B", "!*'()": "=%21%2A%27%28%29", ",;^|": "=%2C%3B%5E%7C"} {
		if got := script.Word(s); got != want {
			t.Errorf("Word(%q) = %q", s, got)
		}
		if got, ok := script.Read(want); got != s || !ok {
			t.Errorf("Read(%q) = %q, %v", want, got, ok)
		}
	}
	for c := range 256 {
		s := "x" + string([]byte{byte(c)}) + "y"
		if got, ok := script.Read(script.Word(s)); got != s || !ok {
			t.Errorf("Read(Word(%q)) = %q, %v", s, got, ok)
		}
	}
	for _, w := range []string{"", "a", "a=", "%3D", "=a b", "= ", "=a:", "=/", "=%", "=%2", "=%2f", "=%2g", "=%g2", "=%0g", "=%g0", "=%0G", "=%G0", "=%0:", "=%0/", "=%0@", "=%0`", "=%:0", "=%@0", "=%1a", "=%61", "=%41", "=%30", "=%2D", "=%7E", "=%5F", "=%2E", "==", "=\n", "=\xff", "=\u00e9", "=%c3%A9", "= a", "=a=", "=+", "=%%", "=%2%30"} {
		if got, ok := script.Read(w); got != "" || ok {
			t.Errorf("Read(%q) = %q, %v", w, got, ok)
		}
	}
}

func line(kind int, texts ...string) script.Line { return script.Line{Kind: kind, Texts: texts} }

func same(a []script.Line, b []script.Line) bool {
	return slices.EqualFunc(a, b, func(x, y script.Line) bool { return x.Kind == y.Kind && slices.Equal(x.Texts, y.Texts) })
}

func TestShowAndParse(t *testing.T) { // P31.2, P31.4
	many := make([]string, 2+api.MaxConds)
	for want, ls := range map[string][]script.Line{
		"":               nil,
		"file =%2Fa =\n": {line(script.KFile, "/a", "")},
		"dir =%2F\nlink =%2Fb =a\nfile =%2Fa =x\nmap =%7B%7D =data%3A\nhtml =a =\nesm = =\ncjs =a =b =c =d\nmap = =\n": {line(script.KDir, "/"), line(script.KLink, "/b", "a"), line(script.KFile, "/a", "x"), line(script.KMap, "{}", "data:"), line(script.KHTML, "a", ""), line(script.KESM, "", ""), line(script.KCJS, "a", "b", "c", "d"), line(script.KMap, "", "")},
		"esm" + strings.Repeat(" =", 2+api.MaxConds) + "\ncjs" + strings.Repeat(" =", 2+api.MaxConds) + "\n":           {line(script.KESM, many...), line(script.KCJS, many...)},
		strings.Repeat("dir =\n", api.MaxOps): slices.Repeat([]script.Line{line(script.KDir, "")}, api.MaxOps),
	} {
		got, code := script.Show(ls...)
		if string(got) != want || code != api.OK {
			t.Errorf("Show(%.80v) = %q, %d", ls, got, code)
		}
		back, number, code := script.Parse([]byte(want))
		if !same(back, ls) || number != 0 || code != api.OK {
			t.Errorf("Parse(%.80q) = %.80v, %d, %d", want, back, number, code)
		}
	}
}

func TestShowRefuses(t *testing.T) { // P31.2
	many := make([]string, 3+api.MaxConds)
	for i, ls := range [][]script.Line{
		{{}}, {line(0, "a")}, {line(8, "a", "b")}, {line(-1)}, {line(script.KFile)}, {line(script.KFile, "a")}, {line(script.KFile, "a", "b", "c")}, {line(script.KDir)}, {line(script.KDir, "a", "b")}, {line(script.KLink, "a")}, {line(script.KLink, "a", "b", "c")}, {line(script.KMap, "a")}, {line(script.KMap, "a", "b", "c")}, {line(script.KHTML, "a")}, {line(script.KHTML, "a", "b", "c")}, {line(script.KESM, "a")}, {line(script.KCJS)}, {line(script.KESM, many...)}, {line(script.KCJS, many...)},
		{line(script.KMap, "", ""), line(script.KDir, "/")}, {line(script.KDir, "/"), line(script.KESM, "", ""), line(script.KFile, "/a", "")}, {line(script.KHTML, "", ""), line(script.KCJS, "", ""), line(script.KLink, "/a", "a")}, append(slices.Repeat([]script.Line{line(script.KHTML, "", "")}, api.MaxOps), line(script.KDir, "/")), append(slices.Repeat([]script.Line{line(script.KDir, "")}, api.MaxOps), line(9)),
	} {
		if got, code := script.Show(ls...); len(got) != 0 || code != api.ErrForm {
			t.Errorf("%d: %q, %d", i, got, code)
		}
	}
	if got, code := script.Show(slices.Repeat([]script.Line{line(script.KDir, "")}, api.MaxOps+1)...); len(got) != 0 || code != api.ErrSize {
		t.Errorf("too many lines: %q, %d", got, code)
	}
}

func TestParseRefuses(t *testing.T) { // P31.2
	full := strings.Repeat("dir =\n", api.MaxOps)
	for in, want := range map[string]struct {
		number int
		code   api.Errno
	}{
		"\n": {1, api.ErrForm}, "dir =": {1, api.ErrForm}, "dir =\n\n": {2, api.ErrForm}, "dir\n": {1, api.ErrForm}, "dir \n": {1, api.ErrForm}, "dir = \n": {1, api.ErrForm}, "dir  =\n": {1, api.ErrForm}, " dir =\n": {1, api.ErrForm}, "dir =\r\n": {1, api.ErrForm}, "Dir =\n": {1, api.ErrForm}, "dirs =\n": {1, api.ErrForm}, "dir = =\n": {1, api.ErrForm}, "dir a\n": {1, api.ErrForm}, "dir\t=\n": {1, api.ErrForm}, "= =\n": {1, api.ErrForm}, " =\n": {1, api.ErrForm},
		"html =a =data:\n": {1, api.ErrForm}, "html =a\n": {1, api.ErrForm}, "html =a =b =c\n": {1, api.ErrForm}, "map =\n": {1, api.ErrForm}, "map = = =\n": {1, api.ErrForm}, "file =\n": {1, api.ErrForm}, "file = = =\n": {1, api.ErrForm}, "link =\n": {1, api.ErrForm}, "esm =\n": {1, api.ErrForm}, "cjs" + strings.Repeat(" =", 3+api.MaxConds) + "\n": {1, api.ErrForm}, "esm" + strings.Repeat(" =", 3+api.MaxConds) + "\n": {1, api.ErrForm},
		"dir =\nmap = =\ndir =\n": {3, api.ErrForm}, "html = =\nfile = =\n": {2, api.ErrForm}, "cjs = =\nesm = =\nlink = =\n": {3, api.ErrForm}, "dir =\nhtml =%61 =\n": {2, api.ErrForm}, "dir =\ndir =\ndir =x": {3, api.ErrForm}, "x\ny": {1, api.ErrForm},
		full + "dir =\n": {api.MaxOps + 1, api.ErrSize}, full + "x": {api.MaxOps + 1, api.ErrSize}, full + "\n": {api.MaxOps + 1, api.ErrSize}, "x\n" + full: {1, api.ErrForm}, full[:len(full)-6] + "dir\nx": {api.MaxOps, api.ErrForm}, full[:len(full)-1]: {api.MaxOps, api.ErrForm},
		strings.Repeat("\n", api.MaxBytes+1): {0, api.ErrSize}, "dir =" + strings.Repeat("a", api.MaxBytes-5): {1, api.ErrForm},
	} {
		if got, number, code := script.Parse([]byte(in)); len(got) != 0 || number != want.number || code != want.code {
			t.Errorf("Parse(%.30q) = %.80v, %d, %d", in, got, number, code)
		}
	}
	if _, number, code := script.Parse([]byte("dir =" + strings.Repeat("a", api.MaxBytes-6) + "\n")); number != 0 || code != api.OK {
		t.Errorf("a line of MaxBytes: %d, %d", number, code)
	}
}

func TestTell(t *testing.T) { // P31.3
	for want, a := range map[string]api.Answer{
		"0 = = = 0 0":                            {},
		"4 = = = 1 2":                            {Code: api.ErrJSON, Spot: 1 + 2i},
		"0 =https%3A%2F%2Fh%2F =module =sha 0 0": {URL: "https://h/", Format: "module", Integrity: "sha"},
		"0 = = = 0 0 8 = =a%20b 4 =%C3%A9 =":     {Warnings: []api.Warning{{Kind: api.WarnTwice, Key: "a b"}, {Kind: api.WarnScope, Scope: "\u00e9"}}},
		"-3 = = = 1099511627776 7 -1 = =":        {Code: -3, Spot: complex(1<<40, 7), Warnings: []api.Warning{{Kind: -1}}},
	} {
		if got := script.Tell(a); got != want {
			t.Errorf("Tell = %q, want %q", got, want)
		}
	}
}

func show(t *testing.T, ls ...script.Line) []byte {
	t.Helper()
	b, code := script.Show(ls...)
	if code != api.OK {
		t.Fatalf("%v: %d", ls, code)
	}
	return b
}

func TestRun(t *testing.T) { // P31.3, and the whole's examples
	b := show(t,
		line(script.KDir, "/n"), line(script.KFile, "/n/a.js", ""), line(script.KDir, "/n/node_modules"), line(script.KDir, "/n/node_modules/p"), line(script.KFile, "/n/node_modules/p/package.json", `{"exports":{"c":"./c.mjs","default":"./m.js"}}`), line(script.KFile, "/n/node_modules/p/m.js", ""), line(script.KFile, "/n/node_modules/p/c.mjs", ""), line(script.KDir, "/n/d"), line(script.KFile, "/n/d/index.js", ""), line(script.KLink, "/x", "y"), line(script.KLink, "/y", "x"),
		line(script.KMap, `{"imports": {"a": "./x.js", "b/": "/lib/"}, "integrity": {"./x.js": "sha"}}`, "https://h/d/"), line(script.KHTML, "a", "https://h/"), line(script.KMap, `{"imports": {"a": "./y.js"}}`, "https://h/d/"), line(script.KHTML, "a", "https://h/"), line(script.KHTML, "b/../c", "https://h/"), line(script.KMap, "[]", "data:"), line(script.KMap, "[", "data:"),
		line(script.KESM, "p", "file:///n/a.js"), line(script.KESM, "p", "file:///n/a.js", "x", "c"), line(script.KESM, "p/m.js", "file:///n/a.js"), line(script.KCJS, "./d", "file:///n/a.js"), line(script.KCJS, "p", "file:///n/a.js", "c"), line(script.KESM, "/x", "file:///n/a.js"), line(script.KESM, "./d", "nothing"),
	)
	want := []string{
		"0 = = = 0 0", "0 =https%3A%2F%2Fh%2Fd%2Fx.js = =sha 0 0", "0 = = = 0 0 7 = =a", "0 =https%3A%2F%2Fh%2Fd%2Fx.js = =sha 0 0", "12 = = = 0 0", "7 = = = 0 0", "4 = = = 1 2",
		"0 =file%3A%2F%2F%2Fn%2Fnode_modules%2Fp%2Fm.js =commonjs = 0 0", "0 =file%3A%2F%2F%2Fn%2Fnode_modules%2Fp%2Fc.mjs =module = 0 0", "18 = = = 0 0", "0 =file%3A%2F%2F%2Fn%2Fd%2Findex.js =commonjs = 0 0", "0 =file%3A%2F%2F%2Fn%2Fnode_modules%2Fp%2Fc.mjs =module = 0 0", "20 = = = 0 0", "8 = = = 0 0",
	}
	was := slices.Clone(b)
	got, code := script.Run(b)
	if !slices.Equal(got, want) || code != api.OK {
		t.Errorf("Run = %q, %d", got, code)
	}
	if !slices.Equal(b, was) {
		t.Error("Run changed what was handed in") // R4
	}
	for in, want := range map[string]api.Errno{
		"": api.OK, "dir =%2Fa\n": api.OK, "html =a =data:\n": api.ErrForm, "file =%2Fa%2Fb =\n": api.ErrTree, "dir =a\nhtml =a =\n": api.ErrTree, strings.Repeat("\n", api.MaxBytes+1): api.ErrSize, strings.Repeat("html = =\n", api.MaxOps+1): api.ErrSize, "dir =%2Fa\ndir =%2Fa\n": api.ErrTree,
	} {
		if got, code := script.Run([]byte(in)); len(got) != 0 || code != want {
			t.Errorf("Run(%.20q) = %q, %d", in, got, code)
		}
	}
}

func TestLimits(t *testing.T) { // P31.3, and time
	var ls []script.Line
	for i := range api.MaxOps / 2 {
		ls = append(ls, line(script.KFile, fmt.Sprintf("/f%d.mjs", i), "x"))
	}
	for i := range api.MaxOps / 2 {
		ls = append(ls, line(script.KESM, fmt.Sprintf("./f%d.mjs", i), "file:///a/../b"))
	}
	got, code := script.Run(show(t, ls...))
	if code != api.OK || len(got) != api.MaxOps/2 || got[7] != "0 =file%3A%2F%2F%2Ff7.mjs =module = 0 0" {
		t.Errorf("%d answers, %d", len(got), code)
	}
}

func TestArgumentsStay(t *testing.T) { // R4
	ls := []script.Line{line(script.KHTML, "a", "b")}
	script.Show(ls...)
	if !reflect.DeepEqual(ls, []script.Line{line(script.KHTML, "a", "b")}) {
		t.Error("Show changed what was handed in")
	}
	b := []byte("html =ab =c\n")
	back, _, _ := script.Parse(b)
	for i := range b {
		b[i] = 'x'
	}
	if !same(back, []script.Line{line(script.KHTML, "ab", "c")}) {
		t.Error("Parse shares memory with what was handed in")
	}
}
