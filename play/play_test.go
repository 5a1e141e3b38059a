package play_test

import (
	"slices"
	"testing"

	"gossamer/api"
	"gossamer/desk"
	"gossamer/play"
)

func TestSession(t *testing.T) {
	steps := []play.Step{{play.Dir, []string{"/a"}}, {play.File, []string{"/a/b.mjs", "x"}}, {play.Link, []string{"/l", "a/b.mjs"}}, {play.Map, []string{`{"imports":{"m":"x:y"}}`, "data:"}}, {play.HTML, []string{"m", "data:"}}, {play.ESM, []string{"./l", "file:///x", "c"}}, {play.CJS, []string{"./l", "file:///x"}}}
	nodes, rest := play.Nodes(steps)
	if !slices.Equal(nodes, []api.Node{{Path: "/a", Kind: api.Dir}, {Path: "/a/b.mjs", Kind: api.File, Data: "x"}, {Path: "/l", Kind: api.Link, Data: "a/b.mjs"}}) || len(rest) != 4 {
		t.Fatalf("Nodes = %v, %v", nodes, rest)
	}
	d, code := desk.New(nodes...)
	if code != api.OK {
		t.Fatal(code)
	}
	for i, want := range []string{"", "x:y", "file:///a/b.mjs", "file:///a/b.mjs"} {
		if a := play.Answer(d, rest[i]); a.URL != want || a.Code != api.OK {
			t.Errorf("Answer(%v) = %v", rest[i], a)
		}
	}
	if _, rest := play.Nodes(steps[:2]); len(rest) != 0 {
		t.Errorf("behind the nodes: %v", rest)
	}
}
