package pkg_test

import (
	"reflect"
	"strings"
	"testing"

	"gossamer/api"
	"gossamer/made"
	"gossamer/pkg"
)

func TestRead(t *testing.T) { // P23.1
	for in, want := range map[string]api.Package{
		`{}`: {}, `{"exports": null}`: {}, `{"x": 1, "Name": "a"}`: {},
		`{"name": "a", "main": "m.js", "type": "module"}`:   {Name: "a", HasName: true, Main: "m.js", HasMain: true, Type: "module"},
		`{"name": "", "main": "", "type": "commonjs"}`:      {HasName: true, HasMain: true, Type: "commonjs"},
		`{"name": 1, "main": null, "type": "Module"}`:       {},
		`{"name": ["a"], "main": {"a": "b"}, "type": true}`: {},
		`{"type": ""}`:   {},
		`{"type": "es"}`: {},
		`{"exports": "./a.js", "imports": {"#a": "./b.js"}}`:    {HasExports: true, Exports: made.Value(`"./a.js"`), HasImports: true, Imports: made.Value(`{"#a":"./b.js"}`)},
		`{"exports": false, "imports": []}`:                     {HasExports: true, Exports: made.Value("false")},
		`{"exports": {}, "imports": {}}`:                        {HasExports: true, Exports: made.Value("{}"), HasImports: true, Imports: made.Value("{}")},
		`{"exports": [1, {"a": null}], "imports": null}`:        {HasExports: true, Exports: made.Value(`[1,{"a":null}]`)},
		`{"exports": 0, "imports": "x"}`:                        {HasExports: true, Exports: made.Value("0")},
		`{"name": "a", "name": "b", "main": "c", "main": null}`: {Name: "b", HasName: true},
		" {\n} ": {},
	} {
		if got, code := pkg.Read([]byte(in)); !reflect.DeepEqual(got, want) || code != api.OK {
			t.Errorf("Read(%s) = %v, %d", in, got, code)
		}
	}
	for _, in := range []string{"", "[]", "null", `"a"`, "1", "{", "{}x", "{\"\xff\":1}", `{"name":}`, strings.Repeat("[", 200), "{}" + strings.Repeat(" ", api.MaxBytes), "\ufeff{}", `{"exports":` + strings.Repeat("[", 128) + strings.Repeat("]", 128) + "}"} {
		if got, code := pkg.Read([]byte(in)); !reflect.DeepEqual(got, api.Package{}) || code != api.ErrConfig {
			t.Errorf("Read(%.20q) = %v, %d", in, got, code)
		}
	}
	b := []byte(`{"name":"abc"}`)
	p, _ := pkg.Read(b)
	b[9] = 'x'
	if p.Name != "abc" {
		t.Error("Read shares memory with what was handed in") // R4
	}
}

func TestIndex(t *testing.T) { // P23.2
	for _, key := range []string{"0", "1", "9", "10", "42", "999999999", "4294967294", "4294967293", "1000000000"} {
		if !pkg.Index(key) {
			t.Errorf("%q is an index", key)
		}
	}
	for _, key := range []string{"", "00", "01", "-0", "-1", "+1", "1.0", "1e1", " 1", "1 ", "a", "1a", "0x1", "4294967295", "4294967296", "9999999999", "10000000000", "42949672940", "18446744073709551616", strings.Repeat("1", 1000), "\u0661", "/", ":"} {
		if pkg.Index(key) {
			t.Errorf("%q is no index", key)
		}
	}
}

func TestMixed(t *testing.T) { // P23.2
	for in, want := range map[string][2]bool{
		"{}": {false, false}, `{".": 1}`: {true, false}, `{"./a": 1, "..b": 1, ".c": 1}`: {true, false}, `{"a": 1, "": 2}`: {false, true}, `{"a": 1, "./b": 2}`: {true, true}, `{"./b": 2, "": 1}`: {true, true}, `["."]`: {false, false}, `"."`: {false, false}, "null": {false, false}, `{"a": {".": 1}}`: {false, true}, `{"a.": 1}`: {false, true},
	} {
		if a, b := pkg.Mixed(made.Value(in)); [2]bool{a, b} != want {
			t.Errorf("Mixed(%s) = %v, %v", in, a, b)
		}
	}
	if a, b := pkg.Mixed(api.Value{Kind: api.Array, K: []string{".", "a"}}); a || b {
		t.Error("Mixed of no object")
	}
}
