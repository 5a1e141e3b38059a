package climb_test

import (
	"slices"
	"strings"
	"testing"

	"gossamer/api"
	"gossamer/climb"
	"gossamer/tree"
	"gossamer/url"
)

func up(t *testing.T, s *tree.Tree, from string) (climb.Way, bool) {
	t.Helper()
	u, code := url.Parse(from)
	if code != api.OK {
		t.Fatalf("%s: %d", from, code)
	}
	return climb.Up(s, u)
}

func TestFolders(t *testing.T) {
	s, _ := tree.New(api.Node{Path: "/a", Kind: api.Dir}, api.Node{Path: "/a/b", Kind: api.Dir}, api.Node{Path: "/a/f", Kind: api.File}, api.Node{Path: "/l", Kind: api.Link, Data: "a"})
	for from, want := range map[string][]string{
		"file:///": {"/"}, "file:///a": {"/"}, "file:///a/": {"/a", "/"}, "file:///a/b/c.js": {"/a/b", "/a", "/"}, "file:///a/x/y/z": {"/a", "/"}, "file:///a/f/x": {"/a", "/"}, "file:///l/b/x": {"/l/b", "/l", "/"}, "file:///a//b/c": {"/a", "/"}, "file:////x": {"/"}, "file:///x/y": {"/"},
	} {
		if w, ok := up(t, s, from); !ok || !slices.Equal(w.Folders(), want) {
			t.Errorf("Up(%s) = %q, %v", from, w.Folders(), ok)
		}
	}
	for _, from := range []string{"http://h/a", "file://h/a", "file:///a%2fb", "data:"} {
		if w, ok := up(t, s, from); ok {
			t.Errorf("Up(%s) = %q", from, w.Folders())
		}
	}
	if w, ok := up(t, nil, "file:///a/b"); !ok || len(w.Folders()) != 0 {
		t.Errorf("Up without a tree = %q, %v", w.Folders(), ok)
	}
}

func TestScope(t *testing.T) {
	s, _ := tree.New(
		api.Node{Path: "/package.json", Kind: api.File}, api.Node{Path: "/a", Kind: api.Dir}, api.Node{Path: "/a/package.json", Kind: api.Link, Data: "/package.json"}, api.Node{Path: "/a/node_modules", Kind: api.Dir}, api.Node{Path: "/a/node_modules/package.json", Kind: api.File}, api.Node{Path: "/a/node_modules/p", Kind: api.Dir},
		api.Node{Path: "/b", Kind: api.Dir}, api.Node{Path: "/b/package.json", Kind: api.Dir},
	)
	for from, want := range map[string]string{"file:///x": "/", "file:///a/x": "/a", "file:///a/y/z": "/a", "file:///b/x": "/", "file:///b/package.json/x": "/", "file:///a/node_modules/x": "", "file:///a/node_modules/p/x": "", "file:///c/node_modules/p/x": "", "file:///node_modules": "/"} {
		w, _ := up(t, s, from)
		if got, ok := w.Scope(); got != want || ok != (want != "") {
			t.Errorf("Scope of %s = %q, %v", from, got, ok)
		}
	}
}

func TestLongWay(t *testing.T) {
	s, _ := tree.New(api.Node{Path: "/a", Kind: api.Dir})
	w, ok := up(t, s, "file://"+strings.Repeat("/a", 500000))
	if _, has := w.Scope(); !ok || has || len(w.Folders()) != 2 || s.Asked() > 50 {
		t.Errorf("%d folders, asked %d times", len(w.Folders()), s.Asked())
	}
}
