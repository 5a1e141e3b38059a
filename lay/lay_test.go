package lay_test

import (
	"testing"

	"gossamer/api"
	"gossamer/lay"
)

func TestBehind(t *testing.T) {
	old := api.Map{Imports: []api.Entry{{Key: "b", To: "x:1"}}, Scopes: []api.Scope{{Prefix: "x:p", Imports: []api.Entry{{Key: "a", To: "x:2"}}}}}
	more := api.Map{Imports: []api.Entry{{Key: "c", To: "x:3"}, {Key: "b", To: "x:4"}, {Key: "a", To: "x:5"}}}
	m, warnings := lay.Behind(old, more, []api.Record{{Base: "x:", Spec: "a"}})
	if len(m.Imports) != 2 || m.Imports[0].To != "x:3" || m.Imports[1].To != "x:1" || len(m.Scopes) != 1 {
		t.Errorf("Behind = %v", m)
	}
	if len(warnings) != 2 || warnings[0].Kind != api.WarnUsed || warnings[1].Kind != api.WarnTwice {
		t.Errorf("warnings %v", warnings)
	}
	if len(old.Imports) != 1 || old.Imports[0].To != "x:1" {
		t.Errorf("the old map is %v", old)
	}
}

func TestFalling(t *testing.T) {
	m := api.Map{Imports: []api.Entry{{Key: "a"}, {Key: "b"}}, Scopes: []api.Scope{{Prefix: "p"}, {Prefix: "q", Imports: []api.Entry{{Key: "c"}, {Key: "d"}}}}}
	f := lay.Falling(m)
	if f.Imports[0].Key != "b" || f.Scopes[0].Prefix != "q" || f.Scopes[0].Imports[0].Key != "d" {
		t.Errorf("Falling = %v", f)
	}
	if m.Imports[0].Key != "a" || m.Scopes[0].Prefix != "p" || m.Scopes[1].Imports[0].Key != "c" {
		t.Errorf("Falling changed %v", m)
	}
}
