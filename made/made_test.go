package made_test

import (
	"slices"
	"testing"

	"gossamer/api"
	"gossamer/made"
)

func TestNodes(t *testing.T) {
	got := made.Nodes("/a/b=x=->y", "/l->a=b", "/d", "/a/b=z")
	want := []api.Node{{Path: "/a", Kind: api.Dir}, {Path: "/a/b", Kind: api.File, Data: "z"}, {Path: "/l", Kind: api.Link, Data: "a=b"}, {Path: "/d", Kind: api.Dir}}
	if !slices.Equal(got, want) {
		t.Errorf("Nodes = %v", got)
	}
}
