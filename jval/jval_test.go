package jval_test

import (
	"encoding/json"
	"reflect"
	"strconv"
	"strings"
	"testing"

	"gossamer/api"
	"gossamer/jval"
)

func str(s string) api.Value       { return api.Value{Kind: api.String, S: s} }
func num(s string) api.Value       { return api.Value{Kind: api.Number, S: s} }
func arr(l ...api.Value) api.Value { return api.Value{Kind: api.Array, L: l} }
func yes(b bool) api.Value         { return api.Value{Kind: api.Bool, B: b} }
func obj(k []string, l ...api.Value) api.Value {
	return api.Value{Kind: api.Object, K: k, L: l}
}

func TestParse(t *testing.T) { // P6.1, P6.2
	for in, want := range map[string]api.Value{
		"null": {}, " true\n": yes(true), "false": yes(false), "-1.50e3": num("-1.50e3"), `"a\u00e9"`: str("a\u00e9"), `""`: str(""), "[]": arr(), "{}": obj(nil),
		"[1,[2,{}],null]":                        arr(num("1"), arr(num("2"), obj(nil)), api.Value{}),
		`{"a":1,"b":2,"a":3}`:                    obj([]string{"a", "b"}, num("3"), num("2")),
		`{"":{"":[]},"\u0061":false}`:            obj([]string{"", "a"}, obj([]string{""}, arr()), yes(false)),
		`{"a":{"x":1},"\u0061":{}}`:              obj([]string{"a"}, obj(nil)),
		"[1e400,123456789012345678901234567890]": arr(num("1e400"), num("123456789012345678901234567890")),
	} {
		got, place, code := jval.Parse([]byte(in))
		if !reflect.DeepEqual(got, want) || place != 0 || code != api.OK {
			t.Errorf("Parse(%s) = %v, %v, %d", in, got, place, code)
		}
	}
}

func TestFaults(t *testing.T) { // P6.1
	for _, c := range []struct {
		in    string
		place complex128
		code  api.Errno
	}{
		{"", 1 + 1i, api.ErrJSON}, {" \n ", 2 + 2i, api.ErrJSON}, {"[\n1 2]", 2 + 3i, api.ErrJSON}, {"1 2", 1 + 3i, api.ErrJSON}, {"[1,]", 1 + 4i, api.ErrJSON}, {"[,1]", 1 + 2i, api.ErrJSON}, {"[1", 1 + 3i, api.ErrJSON},
		{"[1,\n", 2 + 1i, api.ErrJSON}, {"]", 1 + 1i, api.ErrJSON}, {":", 1 + 1i, api.ErrJSON}, {",", 1 + 1i, api.ErrJSON}, {"}", 1 + 1i, api.ErrJSON}, {"[}", 1 + 2i, api.ErrJSON}, {"{]", 1 + 2i, api.ErrJSON}, {"[1:2]", 1 + 3i, api.ErrJSON},
		{"{1:2}", 1 + 2i, api.ErrJSON}, {`{"a"}`, 1 + 5i, api.ErrJSON}, {`{"a":}`, 1 + 6i, api.ErrJSON}, {`{"a":1,}`, 1 + 8i, api.ErrJSON}, {`{"a":1 "b":2}`, 1 + 8i, api.ErrJSON}, {`{"a" 1}`, 1 + 6i, api.ErrJSON}, {`{,}`, 1 + 2i, api.ErrJSON},
		{`{"a":1`, 1 + 7i, api.ErrJSON}, {`{"a":`, 1 + 6i, api.ErrJSON}, {`{"a"`, 1 + 5i, api.ErrJSON}, {`{`, 1 + 2i, api.ErrJSON}, {`{"a":1]`, 1 + 7i, api.ErrJSON}, {`[1}`, 1 + 3i, api.ErrJSON}, {`{"a",1}`, 1 + 5i, api.ErrJSON}, {`{"a"::1}`, 1 + 6i, api.ErrJSON},
		{"[1 2 \x01", 1 + 6i, api.ErrJSON}, {"[1 2\n\"\xff\"", 2 + 2i, api.ErrUTF}, {"\"\u20ac\U0001f600\" x", 1 + 6i, api.ErrJSON}, {"tru", 1 + 4i, api.ErrJSON}, {"nullx", 1 + 5i, api.ErrJSON}, {"01", 1 + 2i, api.ErrJSON}, {"null null", 1 + 6i, api.ErrJSON}, {"{}{}", 1 + 3i, api.ErrJSON},
	} {
		if got, place, code := jval.Parse([]byte(c.in)); !reflect.DeepEqual(got, api.Value{}) || place != c.place || code != c.code {
			t.Errorf("Parse(%q) = %v, %v, %d", c.in, got, place, code)
		}
	}
}

func TestLimits(t *testing.T) { // P6.1
	deep := func(n int) string { return strings.Repeat("[", n) + strings.Repeat("]", n) }
	mixed := func(n int) string { return strings.Repeat(`{"a":[`, n/2) + strings.Repeat("]}", n/2) }
	for in, want := range map[string]struct {
		place complex128
		code  api.Errno
	}{
		deep(api.MaxDeep): {0, api.OK}, mixed(api.MaxDeep): {0, api.OK}, "[" + deep(127) + "," + deep(127) + "]": {0, api.OK},
		deep(api.MaxDeep + 1): {1 + 129i, api.ErrDeep}, "\n" + mixed(130): {2 + complex(0, 1+6*64), api.ErrDeep},
		strings.Repeat("[", 128) + "{}": {1 + 129i, api.ErrDeep}, strings.Repeat("[", 128) + "1": {1 + 130i, api.ErrJSON},
		strings.Repeat("[", 127) + "[1[": {1 + 130i, api.ErrJSON}, strings.Repeat("[", 129) + "\x01": {1 + 130i, api.ErrJSON},
		`"` + strings.Repeat("a", api.MaxBytes-2) + `"`: {0, api.OK}, `"` + strings.Repeat("a", api.MaxBytes-1) + `"`: {0, api.ErrSize}, strings.Repeat("\xff", api.MaxBytes+1): {0, api.ErrSize},
		strings.Repeat(" ", api.MaxBytes): {1 + complex(0, api.MaxBytes+1), api.ErrJSON}, strings.Repeat("[", api.MaxBytes): {1 + 129i, api.ErrDeep},
	} {
		if _, place, code := jval.Parse([]byte(in)); place != want.place || code != want.code {
			t.Errorf("Parse(%.20q, %d) = %v, %d", in, len(in), place, code)
		}
	}
}

func TestGet(t *testing.T) { // P6.2
	v, _, _ := jval.Parse([]byte(`{"a":[1,{"b":"c"}],"":null}`))
	if got, ok := jval.Get(v, "a"); !ok || !reflect.DeepEqual(got, arr(num("1"), obj([]string{"b"}, str("c")))) {
		t.Errorf("Get = %v, %v", got, ok)
	}
	if got, ok := jval.Get(v, ""); !ok || !reflect.DeepEqual(got, api.Value{}) {
		t.Errorf("Get = %v, %v", got, ok)
	}
	for _, c := range []struct {
		v   api.Value
		key string
	}{{v, "b"}, {v.L[0], "a"}, {api.Value{}, ""}, {str("a"), "a"}, {api.Value{Kind: api.Array, K: []string{"a"}, L: []api.Value{{}}}, "a"}, {api.Value{Kind: api.Object, K: []string{"a"}}, "a"}} {
		if got, ok := jval.Get(c.v, c.key); ok || !reflect.DeepEqual(got, api.Value{}) {
			t.Errorf("Get(%v, %q) = %v, %v", c.v, c.key, got, ok)
		}
	}
	got, _ := jval.Get(v, "a")
	got.L[0].S, got.L[1].K[0], got.L[1].L[0].S = "9", "x", "y"
	if again, _ := jval.Get(v, "a"); again.L[0].S != "1" || again.L[1].K[0] != "b" || again.L[1].L[0].S != "c" {
		t.Error("Get shares memory with what was handed in") // R4
	}
}

func TestManyKeys(t *testing.T) { // P6.2, and time
	var b strings.Builder
	b.WriteString("{")
	for i := range 60000 {
		b.WriteString(`"k` + strconv.Itoa(i%50000) + `":` + strconv.Itoa(i) + ",")
	}
	b.WriteString(`"k7":7}`)
	v, _, code := jval.Parse([]byte(b.String()))
	if code != api.OK || len(v.K) != 50000 || len(v.L) != 50000 || v.K[9] != "k9" || v.L[9].S != "50009" || v.L[7].S != "7" || v.L[49999].S != "49999" {
		t.Errorf("Parse: %d, %d, %d", code, len(v.K), len(v.L))
	}
}

func TestLikeTheLibrary(t *testing.T) { // P6.1: what is JSON, by a second reader
	parts := []string{"{", "}", "[", "]", ":", ",", `"a"`, "1", "null"}
	var try func(s string, deep int)
	try = func(s string, deep int) {
		if _, place, code := jval.Parse([]byte(s)); (code == api.OK) != json.Valid([]byte(s)) || (code == api.OK) != (place == 0) {
			t.Errorf("Parse(%s): %v, %d", s, place, code)
		}
		if deep > 0 {
			for _, p := range parts {
				try(s+p, deep-1)
			}
		}
	}
	try("", 5)
}

func TestArgumentsStay(t *testing.T) { // R4
	b := []byte(`{"a":"bc"}`)
	v, _, _ := jval.Parse(b)
	for i := range b {
		b[i] = 'x'
	}
	if v.K[0] != "a" || v.L[0].S != "bc" {
		t.Errorf("Parse shares memory with what was handed in: %v", v)
	}
}

func TestRings(t *testing.T) { // R1
	ring := api.Value{Kind: api.Object, K: []string{"a", "b"}, L: make([]api.Value, 2)}
	ring.L[0], ring.L[1] = ring, ring
	if got, ok := jval.Get(ring, "a"); ok {
		t.Errorf("Get of a ring: %v", got.Kind)
	}
}
