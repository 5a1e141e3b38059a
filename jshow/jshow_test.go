package jshow_test

import (
	"slices"
	"strconv"
	"strings"
	"testing"

	"gossamer/api"
	"gossamer/jshow"
	"gossamer/jval"
)

func str(s string) api.Value       { return api.Value{Kind: api.String, S: s} }
func num(s string) api.Value       { return api.Value{Kind: api.Number, S: s} }
func arr(l ...api.Value) api.Value { return api.Value{Kind: api.Array, L: l} }
func obj(k []string, l ...api.Value) api.Value {
	return api.Value{Kind: api.Object, K: k, L: l}
}

func deep(n int) api.Value {
	v := str("x")
	for i := range n {
		if i%2 == 0 {
			v = arr(num("1"), v)
		} else {
			v = obj([]string{"k"}, v)
		}
	}
	return v
}

func good() map[string]api.Value {
	return map[string]api.Value{
		"null": {}, "true": {Kind: api.Bool, B: true}, "false": {Kind: api.Bool}, "-1.50E+3": num("-1.50E+3"), `""`: str(""), `"a"`: str("a"), "[]": arr(), "{}": obj(nil),
		`{"a":[1,true]}`:          obj([]string{"a"}, arr(num("1"), api.Value{Kind: api.Bool, B: true})),
		`{"":null,"b":{"":"\""}}`: obj([]string{"", "b"}, api.Value{}, obj([]string{""}, str(`"`))),
		`"\"\\\b\f\n\r\t/"`:       str("\"\\\b\f\n\r\t/"), `"\u0000\u0001\u000b\u000e\u001f` + "\x20\x7f" + `"`: str("\x00\x01\x0b\x0e\x1f\x20\x7f"),
		"\"\u20ac\u2028\U0001f600\ufffd<>&'\"": str("\u20ac\u2028\U0001f600\ufffd<>&'"), `{"\n\u0007":0,"a":0}`: obj([]string{"\n\a", "a"}, num("0"), num("0")),
		`[[],[[]],{"x":[null,"y"]}]`: arr(arr(), arr(arr()), obj([]string{"x"}, arr(api.Value{}, str("y")))),
	}
}

func TestShow(t *testing.T) { // P7.1, P7.2, P7.3
	for want, v := range good() {
		if got := jshow.Show(v); string(got) != want || !jshow.May(v) {
			t.Errorf("Show(%v) = %s, %v", v, got, jshow.May(v))
		}
		back, _, code := jval.Parse(jshow.Show(v))
		if code != api.OK || !jshow.Same(back, v) {
			t.Errorf("%s is read as %v, %d", want, back, code)
		}
	}
	for r := rune(0); r < 0x300; r++ {
		v := obj([]string{string(r)}, str("a"+string(r)+"b"))
		if back, _, code := jval.Parse(jshow.Show(v)); code != api.OK || !jshow.Same(back, v) {
			t.Errorf("%s is read as %v, %d", jshow.Show(v), back, code)
		}
	}
}

func TestMayNot(t *testing.T) { // P7.1, P7.2
	one := []api.Value{{}}
	for _, v := range []api.Value{
		{Kind: -1}, {Kind: 6}, {B: true}, {S: "a"}, {K: []string{"a"}}, {L: one},
		{Kind: api.Bool, S: "true"}, {Kind: api.Bool, B: true, K: []string{""}}, {Kind: api.Bool, L: one},
		{Kind: api.Number}, num("01"), num("1 "), num("+1"), num("x"), {Kind: api.Number, S: "1", B: true}, {Kind: api.Number, S: "1", L: one}, {Kind: api.Number, S: "1", K: []string{"a"}},
		str("\xff"), str("a\xe2\x82"), str("\xed\xa0\x80"), {Kind: api.String, B: true}, {Kind: api.String, K: []string{"a"}}, {Kind: api.String, L: one},
		{Kind: api.Array, S: "a"}, {Kind: api.Array, B: true}, {Kind: api.Array, K: []string{"a"}, L: one}, arr(num("1"), num("")),
		{Kind: api.Object, S: "a"}, {Kind: api.Object, B: true}, obj([]string{"a"}), obj(nil, api.Value{}), obj([]string{"a", "b"}, api.Value{}), obj([]string{"a", "b", "a"}, api.Value{}, api.Value{}, api.Value{}),
		obj([]string{"\xff"}, api.Value{}), obj([]string{"a"}, str("\xff")), arr(obj([]string{"a"}, arr(api.Value{Kind: 9}))), deep(api.MaxDeep + 1), arr(arr(), deep(api.MaxDeep)),
	} {
		if jshow.May(v) || len(jshow.Show(v)) != 0 {
			t.Errorf("%v: %v, %s", v, jshow.May(v), jshow.Show(v))
		}
	}
	for _, n := range []int{1, 127, api.MaxDeep} {
		v := deep(n)
		if back, _, code := jval.Parse(jshow.Show(v)); !jshow.May(v) || code != api.OK || !jshow.Same(v, back) {
			t.Errorf("%d brackets", n)
		}
	}
	bottom := arr()
	for range api.MaxDeep - 1 {
		bottom = arr(bottom)
	}
	if !jshow.May(bottom) || jshow.May(arr(bottom)) {
		t.Error("empty lists count, too")
	}
	empty := api.Value{K: []string{}, L: []api.Value{}}
	if !jshow.May(empty) || string(jshow.Show(empty)) != "null" {
		t.Error("an empty list is as nil")
	}
}

func TestSame(t *testing.T) { // P7.1
	all := good()
	for x, a := range all {
		for y, b := range all {
			if got := jshow.Same(a, b); got != (x == y) {
				t.Errorf("Same(%s, %s) = %v", x, y, got)
			}
		}
	}
	base := api.Value{Kind: api.Object, B: true, S: "s", K: []string{"a", "b"}, L: []api.Value{num("1"), arr(str("x"))}}
	for _, b := range []api.Value{
		{Kind: api.Array, B: true, S: "s", K: base.K, L: base.L}, {Kind: api.Object, S: "s", K: base.K, L: base.L}, {Kind: api.Object, B: true, S: "t", K: base.K, L: base.L},
		{Kind: api.Object, B: true, S: "s", K: []string{"b", "a"}, L: base.L}, {Kind: api.Object, B: true, S: "s", K: []string{"a"}, L: base.L}, {Kind: api.Object, B: true, S: "s", K: base.K, L: base.L[:1]},
		{Kind: api.Object, B: true, S: "s", K: base.K, L: []api.Value{num("1"), arr(str("y"))}}, {Kind: api.Object, B: true, S: "s", K: base.K, L: []api.Value{num("1.0"), arr(str("x"))}},
	} {
		if jshow.Same(base, b) || jshow.Same(b, base) {
			t.Errorf("Same(%v, %v)", base, b)
		}
	}
	if !jshow.Same(base, base) || !jshow.Same(api.Value{K: []string{}}, api.Value{L: []api.Value{}}) {
		t.Error("Same of what is the same")
	}
	if !jshow.Same(deep(30000), deep(30000)) || jshow.Same(deep(30000), deep(30001)) {
		t.Error("Same of what is nested")
	}
}

func TestRings(t *testing.T) { // R1
	ring := api.Value{Kind: api.Array, L: make([]api.Value, 2)}
	ring.L[0], ring.L[1] = ring, ring
	if jshow.May(ring) || len(jshow.Show(ring)) != 0 {
		t.Error("a ring is no value of JSON")
	}
	jshow.Same(ring, ring)
}

func TestMany(t *testing.T) { // P7.3, and time
	var v api.Value
	v.Kind = api.Object
	for i := range 50000 {
		v.K = append(v.K, "k"+strconv.Itoa(i))
		v.L = append(v.L, num(strconv.Itoa(i)))
	}
	was := slices.Clone(v.K)
	back, _, code := jval.Parse(jshow.Show(v))
	if code != api.OK || !jshow.Same(back, v) || !slices.Equal(v.K, was) {
		t.Error("an object of many keys")
	}
	long := str(strings.Repeat("\"", 500000))
	if back, _, code = jval.Parse(jshow.Show(long)); code != api.OK || !jshow.Same(back, long) {
		t.Error("a long text")
	}
}
