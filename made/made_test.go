package made_test

import (
	"slices"
	"testing"

	"gossamer/api"
	"gossamer/made"
)

func TestNodes(t *testing.T) {
	got := made.Nodes("/a/b=x=->y", "/l->a=b", "/d", "/a/b=z")
	want := []api.Node{{Path: "/a", Kind: api.Dir}, {Path: "/a/b", Kind: api.File, Data: "z"}, {Path: "/l", Kind: api.Link, Data: "a=b"}, {Path: "/d", Kind: api.Dir}}
	if !slices.Equal(got, want) {
		t.Errorf("Nodes = %v", got)
	}
	if n, ok := made.Tree("/a/b=z").Look("/a/b"); !ok || n.Data != "z" {
		t.Errorf("Tree has %v", n)
	}
}

func TestTexts(t *testing.T) {
	if u := made.URL("http://h/a"); u.Host.S != "h" || made.Value("[1]").Kind != api.Array {
		t.Errorf("URL = %v", u)
	}
	if m := made.Map(`{"imports":{"a":"./b"}}`, "http://h/"); len(m.Imports) != 1 || m.Imports[0].To != "http://h/b" {
		t.Errorf("Map = %v", m)
	}
}

func TestTold(t *testing.T) {
	m := made.Map(`{"imports":{"a":"x:1","b":null},"scopes":{"x:p":{"c":"x:2"}},"integrity":{"x:1":"sha"}}`, "data:")
	if got := made.Told(m); got != " b=none a=x:1 {x:p c=x:2} # x:1=sha" {
		t.Errorf("Told = %q", got)
	}
	if got := made.Warned([]api.Warning{{Kind: 1, Scope: "s", Key: "k"}, {Kind: 2}}); got != "1,s,k;2,," {
		t.Errorf("Warned = %q", got)
	}
}

func TestFaults(t *testing.T) {
	for i, make := range []func(){func() { made.URL("a") }, func() { made.Value("[") }, func() { made.Map("[]", "data:") }, func() { made.Map("{}", "a") }, func() { made.Tree("/a/../b") }} {
		func() {
			defer func() {
				if recover() == nil {
					t.Errorf("%d: something was made", i)
				}
			}()
			make()
		}()
	}
}
