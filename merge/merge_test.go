package merge_test

import (
	"fmt"
	"math/rand"
	"reflect"
	"slices"
	"strconv"
	"strings"
	"testing"

	"gossamer/api"
	"gossamer/hres"
	"gossamer/made"
	"gossamer/merge"
	"gossamer/order"
)

func TestUses(t *testing.T) { // P21.1
	for _, c := range []struct {
		spec        string
		is, special bool
		key         string
		want        bool
	}{
		{"a", false, false, "a", true}, {"a", false, false, "b", false}, {"ab", false, false, "a", false}, {"a", false, false, "ab", false}, {"a", false, false, "a/", false}, {"a/", false, false, "a/", true}, {"a/b", false, false, "a/", true}, {"a/b", false, false, "a", false}, {"a/b", false, false, "a/b", true}, {"b/a/", false, false, "a/", false}, {"a/b/c", false, false, "a/b/", true}, {"", false, false, "", true}, {"a", false, false, "", false}, {"A/b", false, false, "a/", false},
		{"http://h/a", true, true, "http://h/", true}, {"x:a/b", true, false, "x:a/", false}, {"x:a/b", true, false, "x:a/b", true}, {"x:a/", true, false, "x:a/", true}, {"x:a/b", false, true, "x:a/", true},
	} {
		r := api.Record{Base: "q", Spec: c.spec, URL: c.is, Special: c.special}
		if got := merge.Uses(r, c.key); got != c.want {
			t.Errorf("Uses(%v, %q) = %v", r, c.key, got)
		}
	}
}

func TestMerge(t *testing.T) { // P21.2
	bare := func(base, spec string) api.Record { return api.Record{Base: base, Spec: spec} }
	for _, c := range []struct {
		old, more    string
		rs           []api.Record
		told, warned string
	}{
		{`{}`, `{}`, nil, "", ""},
		{`{"imports":{"a":"x:1"}}`, `{"imports":{"a":"x:2"}}`, nil, " a=x:1", "8,,a"},
		{`{"imports":{"a":"x:1","c":"x:3"}}`, `{"imports":{"b":"x:2","d":null,"c":"x:3"}}`, nil, " d=none c=x:3 b=x:2 a=x:1", "8,,c"},
		{`{"imports":{"a":null}}`, `{"imports":{"a":"x:2"}}`, nil, " a=none", "8,,a"},
		{`{}`, `{"imports":{"a":"x:1","b":"x:2","c/":"/","d/":"/","e":"x:5"}}`, []api.Record{bare("y:", "b"), bare("z:", "c/d"), bare("z:", "e/f")}, " e=x:5 d/=http://h/ a=x:1", "7,,c/;7,,b"},
		{`{"imports":{"b":"x:0","c":"x:0"}}`, `{"imports":{"a":"x:1","b":"x:2","c":"x:3","d":"x:4"}}`, []api.Record{bare("y:", "d"), bare("y:", "b")}, " c=x:0 b=x:0 a=x:1", "7,,d;7,,b;8,,c"},
		{`{}`, `{"scopes":{"/s/":{"a":"x:1","b":"x:2"},"/t":{"a":"x:3"}},"imports":{"a":"x:4"}}`, []api.Record{bare("http://h/s/x", "a")}, " {http://h/t a=x:3} {http://h/s/ b=x:2}", "7,http://h/s/,a;7,,a"},
		{`{}`, `{"scopes":{"/s":{"a":"x:1"},"/t":{"a":"x:2","b/":"/"}}}`, []api.Record{bare("http://h/s/x", "a"), bare("http://h/t", "b/c")}, " {http://h/t a=x:2} {http://h/s a=x:1}", "7,http://h/t,b/"},
		{`{"scopes":{"/s":{"a":"x:1","c":null}}}`, `{"scopes":{"/s":{"a":"x:2","b":"x:3","c":"x:4","d":"x:5"},"/r":{},"/u":{"a":"x:6"}}}`, []api.Record{bare("http://h/s", "d"), bare("http://h/s", "a")}, " {http://h/u a=x:6} {http://h/s c=none b=x:3 a=x:1} {http://h/r}", "7,http://h/s,d;7,http://h/s,a;8,http://h/s,c"},
		{`{"scopes":{"/s":{}}}`, `{"scopes":{"/s":{"a":"x:1"}}}`, []api.Record{bare("http://h/s", "a")}, " {http://h/s}", "7,http://h/s,a"},
		{`{}`, `{"scopes":{"/t":{"a":"x:1"}}}`, []api.Record{bare("http://h/t", "a")}, " {http://h/t}", "7,http://h/t,a"},
		{`{"integrity":{"x:1":"p"}}`, `{"integrity":{"x:2":"q","x:1":"r","x:0":"s"}}`, []api.Record{bare("x:", "x:2")}, " # x:2=q x:1=p x:0=s", "8,,x:1"},
		{`{"imports":{"a":"x:1"},"integrity":{"x:1":"p"},"scopes":{"/s":{"a":"x:1"}}}`, `{"imports":{"a":"x:2"},"integrity":{"x:1":"r"},"scopes":{"/s":{"a":"x:2"}}}`, nil, " a=x:1 {http://h/s a=x:1} # x:1=p", "8,http://h/s,a;8,,x:1;8,,a"},
		{`{}`, `{"imports":{"x:a/":"/1/","http://g/":"/2/","x:b/":"/3/","x:c/":"/4/"}}`, []api.Record{{Base: "b", Spec: "x:a/b", URL: true}, {Base: "b", Spec: "http://g/c", URL: true, Special: true}, {Base: "b", Spec: "x:b/", URL: true}, {Base: "b", Spec: "x:c/", URL: false}}, " x:a/=http://h/1/", "7,,x:c/;7,,x:b/;7,,http://g/"},
		{`{"imports":{"\uff21":"x:1","a":"x:2"}}`, `{"imports":{"\ud83d\ude00":"x:3","\uff22":"x:4"}}`, nil, " \uff22=x:4 \uff21=x:1 \U0001f600=x:3 a=x:2", ""},
		{`{"imports":{"a":"x:2"}}`, `{"scopes":{"/s/":{"a":"x:1"}}}`, []api.Record{bare("http://h/s/", "a")}, " a=x:2 {http://h/s/}", "7,http://h/s/,a"},
	} {
		m, warnings := merge.Merge(made.Map(c.old, "http://h/"), made.Map(c.more, "http://h/"), c.rs...)
		if made.Told(m) != c.told || made.Warned(warnings) != c.warned {
			t.Errorf("Merge(%s, %s, %v) = %q, %q", c.old, c.more, c.rs, made.Told(m), made.Warned(warnings))
		}
	}
	m, warnings := merge.Merge(api.Map{Imports: []api.Entry{{Key: "a", To: "x"}}}, api.Map{Imports: []api.Entry{{Key: "a", To: "y"}}})
	if made.Told(m) != " a=x" || made.Warned(warnings) != "8,,a" {
		t.Errorf("%q, %q", made.Told(m), made.Warned(warnings))
	}
}

// plain is the chapter's way, one thing behind the other.
func plain(old api.Map, more api.Map, rs []api.Record) (api.Map, []api.Warning) {
	var warnings []api.Warning
	lay := func(old, more []api.Entry, scope string, whole bool, used bool) []api.Entry {
		all := slices.Clone(old)
		var left []api.Entry
		for _, e := range more {
			if used && slices.ContainsFunc(rs, func(r api.Record) bool {
				return (whole || hres.Under(scope, r.Base)) && merge.Uses(r, e.Key)
			}) {
				warnings = append(warnings, api.Warning{Kind: api.WarnUsed, Scope: scope, Key: e.Key})
			} else {
				left = append(left, e)
			}
		}
		for _, e := range left {
			if slices.ContainsFunc(old, func(o api.Entry) bool { return o.Key == e.Key }) {
				warnings = append(warnings, api.Warning{Kind: api.WarnTwice, Scope: scope, Key: e.Key})
			} else {
				all = append(all, e)
			}
		}
		slices.SortFunc(all, func(a, b api.Entry) int { return order.Compare(b.Key, a.Key) })
		return all
	}
	m := api.Map{Scopes: slices.Clone(old.Scopes)}
	for _, s := range more.Scopes {
		i := slices.IndexFunc(m.Scopes, func(o api.Scope) bool { return o.Prefix == s.Prefix })
		if i < 0 {
			i = len(m.Scopes)
			m.Scopes = append(m.Scopes, api.Scope{Prefix: s.Prefix})
		}
		m.Scopes[i].Imports = lay(m.Scopes[i].Imports, s.Imports, s.Prefix, false, true)
	}
	slices.SortFunc(m.Scopes, func(a, b api.Scope) int { return order.Compare(b.Prefix, a.Prefix) })
	m.Integrity = lay(old.Integrity, more.Integrity, "", true, false)
	m.Imports = lay(old.Imports, more.Imports, "", true, true)
	return m, warnings
}

// some makes a map from a few names, so that many meet.
func some(r *rand.Rand) api.Map {
	keys := []string{"a", "a/", "a/b", "a/b/", "b/", "x:a/", "x:a/b", "/p/", "/p/q", "./", "\U0001f600", "\uff21", "http://g/", "c"}
	tos := []string{`"/1/"`, `"x:2/"`, `"http://k/3/"`, "null"}
	part := func() string {
		var l []string
		for range r.Intn(5) {
			l = append(l, strconv.Quote(keys[r.Intn(len(keys))])+":"+tos[r.Intn(len(tos))])
		}
		return "{" + strings.Join(l, ",") + "}"
	}
	var scopes []string
	for range r.Intn(4) {
		prefix := []string{"/", "/s", "/s/", "/s/t", "/s/t/", "x:", "http://g/"}[r.Intn(7)]
		scopes = append(scopes, `"`+prefix+`":`+part())
	}
	return made.Map(`{"imports":`+part()+`,"scopes":{`+strings.Join(scopes, ",")+`},"integrity":`+strings.ReplaceAll(part(), "null", `"n"`)+`}`, "http://h/")
}

func TestLikeThePlainWay(t *testing.T) { // P21.2, P21.3
	r := rand.New(rand.NewSource(21))
	specs := []string{"a", "a/b", "a/b/c", "a/", "b/x", "x:a/b", "x:a/c", "/p/q", "/p/q/r", "./y", "\U0001f600", "http://g/z", "c", "d"}
	bases := []string{"http://h/", "http://h/s", "http://h/s/", "http://h/s/t", "http://h/s/t/u", "http://g/", "x:", "data:"}
	padding := api.Map{Scopes: []api.Scope{{Prefix: "http://h/s/"}, {Prefix: "z:"}}}
	for i := range 9 {
		padding.Imports = append(padding.Imports, api.Entry{Key: fmt.Sprintf("z%d", 9-i), To: "z:"})
		padding.Scopes[1].Imports = append(padding.Scopes[1].Imports, api.Entry{Key: fmt.Sprintf("z%d", 9-i), To: "z:"})
	}
	for range 4000 {
		old, more := some(r), some(r)
		if r.Intn(2) == 0 {
			more, _ = merge.Merge(more, padding)
		}
		var rs []api.Record
		type asked struct{ spec, base, url string }
		var all []asked
		for range r.Intn(8) {
			spec, by := specs[r.Intn(len(specs))], bases[r.Intn(len(bases))]
			if s, record, code := hres.Resolve(old, spec, made.URL(by)); code == api.OK {
				rs = append(rs, record)
				all = append(all, asked{spec, by, s})
			}
		}
		before := made.Told(old) + made.Told(more) + fmt.Sprint(rs)
		m, warnings := merge.Merge(old, more, rs...)
		want, also := plain(old, more, rs)
		if made.Told(m) != made.Told(want) || made.Warned(warnings) != made.Warned(also) {
			t.Fatalf("Merge(%q, %q, %v) = %q, %q, want %q, %q", made.Told(old), made.Told(more), rs, made.Told(m), made.Warned(warnings), made.Told(want), made.Warned(also))
		}
		for _, a := range all {
			if s, _, code := hres.Resolve(m, a.spec, made.URL(a.base)); s != a.url || code != api.OK {
				t.Fatalf("%q by %q was %q, is %q, %d", a.spec, a.base, a.url, s, code)
			}
		}
		for i := range m.Scopes {
			for j := range m.Scopes[i].Imports {
				m.Scopes[i].Imports[j].To = "z"
			}
			_ = append(m.Scopes[i].Imports, api.Entry{})
		}
		for _, l := range [][]api.Entry{m.Imports, m.Integrity} {
			for j := range l {
				l[j].To = "z"
			}
		}
		if made.Told(old)+made.Told(more)+fmt.Sprint(rs) != before {
			t.Fatal("Merge changed or shares what was handed in") // R4
		}
	}
}

func TestUnsorted(t *testing.T) { // P21.2: all stand falling
	a, b, c, d := api.Entry{Key: "a", To: "x:1"}, api.Entry{Key: "b", To: "x:2"}, api.Entry{Key: "c", To: "x:3"}, api.Entry{Key: "d", To: "x:4"}
	old := api.Map{Imports: []api.Entry{a, c}, Integrity: []api.Entry{b, d}, Scopes: []api.Scope{{Prefix: "x:p"}, {Prefix: "x:r", Imports: []api.Entry{a, c}}}}
	more := api.Map{Imports: []api.Entry{b, a, d}, Integrity: []api.Entry{a, b, c}, Scopes: []api.Scope{{Prefix: "x:q"}, {Prefix: "x:s"}, {Prefix: "x:p", Imports: []api.Entry{a, b}}}}
	m, warnings := merge.Merge(old, more)
	if got := made.Told(m); got != " d=x:4 c=x:3 b=x:2 a=x:1 {x:s} {x:r c=x:3 a=x:1} {x:q} {x:p b=x:2 a=x:1} # d=x:4 c=x:3 b=x:2 a=x:1" {
		t.Errorf("Merge = %q", got)
	}
	if got := made.Warned(warnings); got != "8,,b;8,,a" {
		t.Errorf("warnings %q", got)
	}
}

func TestNothing(t *testing.T) {
	m, warnings := merge.Merge(api.Map{}, api.Map{})
	if made.Told(m) != "" || len(warnings) != 0 || len(m.Imports)+len(m.Scopes)+len(m.Integrity) != 0 {
		t.Errorf("%v, %v", m, warnings)
	}
	if m, _ := merge.Merge(api.Map{}, api.Map{}, api.Record{Spec: "a"}); !reflect.DeepEqual(made.Told(m), "") {
		t.Errorf("%v", m)
	}
}

func TestMany(t *testing.T) { // time
	var more api.Map
	var rs []api.Record
	const n = 40000
	name := func(i int) string { return fmt.Sprintf("k%05d", i) }
	for i := n - 1; i >= 0; i-- {
		more.Imports = append(more.Imports, api.Entry{Key: name(i) + "/", To: "http://h/"})
	}
	for i := n - 1; i >= 0; i -= 2 {
		more.Scopes = append(more.Scopes, api.Scope{Prefix: "http://h/" + name(i) + "/", Imports: []api.Entry{{Key: "a/", To: "http://h/"}, {Key: "a", To: "http://h/"}}})
	}
	more.Scopes = append(more.Scopes, api.Scope{Prefix: "http://h/", Imports: slices.Clone(more.Imports)})
	for i := range n {
		rs = append(rs, api.Record{Base: "http://h/" + name(i) + "/x", Spec: name(i) + "/y"}, api.Record{Base: "http://h/", Spec: "a/b" + name(i)})
	}
	m, warnings := merge.Merge(api.Map{}, more, rs...)
	if len(warnings) != 2*n || len(m.Imports) != 0 || len(m.Scopes) != n/2+1 {
		t.Errorf("%d warnings, %d imports, %d scopes", len(warnings), len(m.Imports), len(m.Scopes))
	}
	again, warnings := merge.Merge(m, more)
	if len(warnings) != n || len(again.Imports) != n || len(again.Scopes) != n/2+1 {
		t.Errorf("%d warnings, %d imports, %d scopes", len(warnings), len(again.Imports), len(again.Scopes))
	}
}
