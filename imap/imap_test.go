package imap_test

import (
	"slices"
	"strconv"
	"strings"
	"testing"

	"gossamer/api"
	"gossamer/imap"
	"gossamer/made"
)

func TestParse(t *testing.T) { // P19.1, P19.2
	for _, c := range []struct{ in, base, told, warned string }{
		{`{}`, "http://h/", "", ""},
		{`{"imports": {}, "scopes": {}, "integrity": {}}`, "http://h/", "", ""},
		{`{"x": 1}`, "http://h/", "", "5,,x"},
		{`{"imports": {"a": "./b", "ab": "/c"}}`, "http://h/d/e", " ab=http://h/c a=http://h/d/b", ""},
		{`{"imports": {"": "/x", "a": 1, "b/": "/c"}}`, "http://h/", " b/=none a=none", "1,,;2,,a;3,,b/"},
		{`{"scopes": {"/s/": {"a": "/b", "": "x"}, "t": {"c": null}, "http://\u00e9/": {"a": 1}, "": {}}}`, "http://h/d/", " {http://h/s/ a=http://h/b} {http://h/d/t c=none} {http://h/d/}", "1,http://h/s/,;2,http://h/d/t,c;4,http://\u00e9/,"},
		{`{"scopes": {"/s": {"a": 1}, "/r/../s": {"b": "/c", "d": 2}}}`, "http://h/", " {http://h/s d=none b=http://h/c}", "2,http://h/s,a;2,http://h/s,d"},
		{`{"scopes": {"/s": {}, "#f": {}, "?": {}, "//g": {}}}`, "http://h/d?q", " {http://h/s} {http://h/d?q#f} {http://h/d?} {http://g/}", ""},
		{`{"scopes": {"/s": {}, "s": {}, "#f": {}, "": {"a": 1}, "x:y": {"a": "./b"}}}`, "data:o?q", " {x:y a=none} {data:o?q#f}", "4,/s,;4,s,;4,,;2,x:y,a"},
		{`{"integrity": {"/a": "sha", "b": "sha", "./c": 1, "x:y": "", "": "z", "http://h/a": "sha2"}}`, "http://h/d/", " # x:y= http://h/a=sha2", "6,,b;6,,./c;6,,"},
		{`{"integrity": {"/a": "sha", "./a": null}}`, "http://h/", " # http://h/a=sha", "6,,./a"},
		{`{"integrity": {"/\uff21": "1", "x:\ud83d\ude00": "2", "x:a/": "3", "/a": "4"}}`, "http://h/", " # x:a/=3 x:%F0%9F%98%80=2 http://h/a=4 http://h/%EF%BC%A1=1", ""},
		{`{"z": [], "integrity": {"q": 0}, "scopes": {"http://[": {}, "/s": {"": 0}}, "imports": {"a": 0}, "": null, "Imports": {}}`, "http://h/", " a=none {http://h/s}", "2,,a;4,http://[,;1,http://h/s,;6,,q;5,,z;5,,;5,,Imports"},
		{`{"imports": 1, "imports": {"a": "x:y"}}`, "http://h/", " a=x:y", ""},
	} {
		m, warnings, place, code := imap.Parse([]byte(c.in), made.URL(c.base))
		if made.Told(m) != c.told || made.Warned(warnings) != c.warned || place != 0 || code != api.OK {
			t.Errorf("Parse(%s) = %q, %q, %v, %d", c.in, made.Told(m), made.Warned(warnings), place, code)
		}
	}
}

func TestFaults(t *testing.T) { // P19.1
	for in, want := range map[string]struct {
		place complex128
		code  api.Errno
	}{
		"": {1 + 1i, api.ErrJSON}, "[": {1 + 2i, api.ErrJSON}, "{\n\"\xff\"}": {2 + 2i, api.ErrUTF}, `{"imports":[}`: {1 + 13i, api.ErrJSON}, strings.Repeat("[", 129): {1 + 129i, api.ErrDeep}, strings.Repeat(" ", api.MaxBytes+1): {0, api.ErrSize},
		"[]": {0, api.ErrType}, "null": {0, api.ErrType}, `"a"`: {0, api.ErrType}, "1": {0, api.ErrType}, `{"imports": []}`: {0, api.ErrType}, `{"imports": null}`: {0, api.ErrType}, `{"scopes": "a"}`: {0, api.ErrType}, `{"scopes": []}`: {0, api.ErrType}, `{"integrity": 1}`: {0, api.ErrType}, `{"integrity": null}`: {0, api.ErrType},
		`{"scopes": {"/a": {}, "/b": []}}`: {0, api.ErrType}, `{"scopes": {"http://[": null}}`: {0, api.ErrType}, `{"imports": {"": 1}, "integrity": []}`: {0, api.ErrType},
	} {
		m, warnings, place, code := imap.Parse([]byte(in), made.URL("http://h/"))
		if made.Told(m) != "" || len(warnings) != 0 || place != want.place || code != want.code {
			t.Errorf("Parse(%.20q) = %q, %v, %v, %d", in, made.Told(m), warnings, place, code)
		}
	}
}

func TestArgumentsStay(t *testing.T) { // R4
	b := []byte(`{"imports":{"a":"x:y"},"scopes":{"/s":{"b":"x:z"}},"integrity":{"x:y":"q"},"w":0}`)
	was := slices.Clone(b)
	m, warnings, _, _ := imap.Parse(b, made.URL("http://h/"))
	before := made.Told(m) + made.Warned(warnings)
	if !slices.Equal(b, was) {
		t.Error("Parse changed what was handed in")
	}
	for i := range b {
		b[i] = ' '
	}
	if made.Told(m)+made.Warned(warnings) != before {
		t.Error("Parse shares memory with what was handed in")
	}
}

func TestMany(t *testing.T) { // time
	var b strings.Builder
	b.WriteString(`{"scopes":{"/":{}`)
	for i := range 20000 {
		b.WriteString(`,"/` + strconv.Itoa(i) + `/":{"a":"/b"}`)
	}
	b.WriteString("}}")
	m, _, _, code := imap.Parse([]byte(b.String()), made.URL("http://h/"))
	if code != api.OK || len(m.Scopes) != 20001 || m.Scopes[20000].Prefix != "http://h/" || m.Scopes[0].Prefix != "http://h/9999/" {
		t.Errorf("%d scopes, %d", len(m.Scopes), code)
	}
}
