package lay_test

import (
	"math/rand"
	"slices"
	"strconv"
	"testing"

	"gossamer/api"
	"gossamer/hres"
	"gossamer/lay"
)

func TestBehind(t *testing.T) {
	old := api.Map{Imports: []api.Entry{{Key: "b", To: "x:1"}}, Scopes: []api.Scope{{Prefix: "x:p", Imports: []api.Entry{{Key: "a", To: "x:2"}}}}}
	more := api.Map{Imports: []api.Entry{{Key: "c", To: "x:3"}, {Key: "b", To: "x:4"}, {Key: "a", To: "x:5"}}}
	m, warnings := lay.Behind(old, more, []api.Record{{Base: "x:", Spec: "a"}})
	if len(m.Imports) != 2 || m.Imports[0].To != "x:3" || m.Imports[1].To != "x:1" || len(m.Scopes) != 1 {
		t.Errorf("Behind = %v", m)
	}
	if len(warnings) != 2 || warnings[0].Kind != api.WarnUsed || warnings[1].Kind != api.WarnTwice {
		t.Errorf("warnings %v", warnings)
	}
	if len(old.Imports) != 1 || old.Imports[0].To != "x:1" {
		t.Errorf("the old map is %v", old)
	}
}

func TestUsed(t *testing.T) {
	keys := []string{"a", "a/", "a/b", "a/b/", "a/b/c", "b/", "x:a/", "/"}
	prefixes := []string{"", "x:", "x:/", "x:/a", "x:/a/", "x:/a/b/", "y:/"}
	r := rand.New(rand.NewSource(18))
	for range 3000 {
		var rs []api.Record
		for range r.Intn(12) {
			spec := []string{"a", "a/", "a/b", "a/b/c", "a/b/d", "b/x", "x:a/b", "b"}[r.Intn(8)]
			base := []string{"x:", "x:/", "x:/a", "x:/a/", "x:/a/b/c", "x:/ab", "y:/z"}[r.Intn(7)]
			rs = append(rs, api.Record{Base: base, Spec: spec, URL: r.Intn(3) == 0, Special: r.Intn(2) == 0})
		}
		key, prefix := keys[r.Intn(len(keys))], prefixes[r.Intn(len(prefixes))]
		want := slices.ContainsFunc(rs, func(r api.Record) bool { return lay.Uses(r, key) })
		one := []api.Entry{{Key: key, To: "x:"}}
		for i := range r.Intn(2) * 20 {
			one = append(one, api.Entry{Key: "z" + strconv.Itoa(i)})
		}
		if _, warnings := lay.Behind(api.Map{}, api.Map{Imports: one}, rs); (len(warnings) == 1) != want {
			t.Fatalf("%q by %v: %v", key, rs, warnings)
		}
		want = slices.ContainsFunc(rs, func(r api.Record) bool { return hres.Under(prefix, r.Base) && lay.Uses(r, key) })
		if _, warnings := lay.Behind(api.Map{}, api.Map{Scopes: []api.Scope{{Prefix: prefix, Imports: one}}}, rs); (len(warnings) == 1) != want {
			t.Fatalf("%q in %q by %v: %v", key, prefix, rs, warnings)
		}
	}
}

func TestFalling(t *testing.T) {
	m := api.Map{Imports: []api.Entry{{Key: "a"}, {Key: "b"}}, Scopes: []api.Scope{{Prefix: "p"}, {Prefix: "q", Imports: []api.Entry{{Key: "c"}, {Key: "d"}}}}}
	f := lay.Falling(m)
	if f.Imports[0].Key != "b" || f.Scopes[0].Prefix != "q" || f.Scopes[0].Imports[0].Key != "d" {
		t.Errorf("Falling = %v", f)
	}
	if m.Imports[0].Key != "a" || m.Scopes[0].Prefix != "p" || m.Scopes[1].Imports[0].Key != "c" {
		t.Errorf("Falling changed %v", m)
	}
}
