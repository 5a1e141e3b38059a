package tree_test

import (
	"slices"
	"strconv"
	"strings"
	"sync"
	"testing"

	"gossamer/api"
	"gossamer/tree"
)

func dir(p string) api.Node        { return api.Node{Path: p, Kind: api.Dir} }
func leaf(p, data string) api.Node { return api.Node{Path: p, Kind: api.File, Data: data} }
func link(p, to string) api.Node   { return api.Node{Path: p, Kind: api.Link, Data: to} }

func TestNew(t *testing.T) { // P15.1
	name := strings.Repeat("n", api.MaxPart)
	long := strings.Repeat("/"+strings.Repeat("d", 127), 7) // 896 bytes
	deep := []api.Node{}
	for i := 128; i <= len(long); i += 128 {
		deep = append(deep, dir(long[:i]))
	}
	for i, nodes := range [][]api.Node{
		nil, {dir("/")}, {leaf("/a", "x")}, {leaf("/a/b", ""), dir("/a")}, {dir("/a"), dir("/a/b"), link("/a/b/c", "/")}, {leaf("/"+name, "")}, {leaf("/a b\xff\\", "\x00")}, {leaf("/a", strings.Repeat("x", api.MaxBytes))}, {link("/a", strings.Repeat("x", api.MaxPath))},
		append(slices.Clone(deep), leaf(long+"/"+strings.Repeat("e", api.MaxPath-len(long)-1), "")),
	} {
		if got, code := tree.New(nodes...); got == nil || code != api.OK {
			t.Errorf("%d: %v, %d", i, got, code)
		}
	}
	for i, nodes := range [][]api.Node{
		{leaf("/a/b", "")}, {leaf("/a/b", ""), leaf("/a", "")}, {leaf("/a/b", ""), link("/a", "/")}, {dir("/a/b/c"), dir("/a")}, {leaf("/a", ""), leaf("/a", "")}, {dir("/a"), leaf("/a", "")}, {dir("/"), dir("/")}, {leaf("/", "")}, {link("/", "a")}, {{Path: "/", Kind: api.Dir, Data: "x"}},
		{leaf("", "")}, {leaf("a", "")}, {dir("/a/")}, {dir("/a"), leaf("/a/..", "")}, {dir("/a"), leaf("/a//b", "")}, {leaf("/.", "")}, {leaf("/a\x00", "")}, {leaf("/"+name+"n", "")}, {{Path: "/a"}}, {{Path: "/a", Kind: 4}}, {{Path: "/a", Kind: -1}},
		{{Path: "/a", Kind: api.Dir, Data: "x"}}, {link("/a", "")}, {link("/a", "x\x00")}, {link("/a", "\x00x")}, {link("/a", "\x00")}, {dir("/a\x00b")}, {leaf("/\x00", "")}, {link("/a", strings.Repeat("x", api.MaxPath+1))}, {leaf("/a", strings.Repeat("x", api.MaxBytes+1))},
		append(slices.Clone(deep), leaf(long+"/"+strings.Repeat("e", api.MaxPath-len(long)), "")),
	} {
		if got, code := tree.New(nodes...); got != nil || code != api.ErrTree {
			t.Errorf("%d: %v, %d", i, got, code)
		}
	}
}

func TestManyNodes(t *testing.T) { // P15.1
	nodes := []api.Node{}
	for i := range api.MaxNodes {
		nodes = append(nodes, leaf("/"+strconv.Itoa(i), ""))
	}
	full, code := tree.New(nodes...)
	if code != api.OK || len(full.All()) != api.MaxNodes+1 {
		t.Errorf("MaxNodes: %d", code)
	}
	for _, more := range []api.Node{leaf("/x", ""), leaf("/0", ""), dir("/")} {
		if got, code := tree.New(append(slices.Clone(nodes), more)...); got != nil || code != api.ErrSize {
			t.Errorf("one node more: %d", code)
		}
	}
}

func some(t *testing.T) *tree.Tree {
	t.Helper()
	got, code := tree.New(dir("/b"), leaf("/b/z", "1"), leaf("/b!", "2"), dir("/b/a"), leaf("/b/a/\xff", "3"), link("/a", "b"), leaf("/b/B", ""))
	if code != api.OK {
		t.Fatal(code)
	}
	return got
}

func TestLook(t *testing.T) { // P15.2
	s := some(t)
	for p, want := range map[string]api.Node{"/": dir("/"), "/b": dir("/b"), "/b/z": leaf("/b/z", "1"), "/a": link("/a", "b"), "/b/a/\xff": leaf("/b/a/\xff", "3")} {
		if got, ok := s.Look(p); got != want || !ok {
			t.Errorf("Look(%q) = %v, %v", p, got, ok)
		}
	}
	for _, p := range []string{"", "/c", "/b/", "//b", "/a/z", "b", "/b/./z", "/B"} {
		if got, ok := s.Look(p); got != (api.Node{}) || ok {
			t.Errorf("Look(%q) = %v, %v", p, got, ok)
		}
	}
}

func TestNames(t *testing.T) { // P15.2
	s := some(t)
	for p, want := range map[string][]string{"/": {"a", "b", "b!"}, "/b": {"B", "a", "z"}, "/b/a": {"\xff"}} {
		got, ok := s.Names(p)
		if !slices.Equal(got, want) || !ok {
			t.Errorf("Names(%q) = %q, %v", p, got, ok)
		}
		got[0] = "x"
		_ = append(got, "y")
		if again, _ := s.Names(p); !slices.Equal(again, want) {
			t.Errorf("Names(%q) shares memory", p) // R4
		}
	}
	for _, p := range []string{"", "/c", "/a", "/b/z", "/b/"} {
		if got, ok := s.Names(p); len(got) != 0 || ok {
			t.Errorf("Names(%q) = %q, %v", p, got, ok)
		}
	}
	empty, _ := tree.New(dir("/e"))
	if got, ok := empty.Names("/e"); len(got) != 0 || !ok {
		t.Errorf("Names of an empty folder: %q, %v", got, ok)
	}
	bare, _ := tree.New()
	if got, ok := bare.Names("/"); len(got) != 0 || !ok {
		t.Errorf("Names of nothing: %q, %v", got, ok)
	}
}

func TestAll(t *testing.T) { // P15.2
	s := some(t)
	paths := func() []string {
		var l []string
		for _, n := range s.All() {
			l = append(l, n.Path)
		}
		return l
	}
	want := []string{"/", "/a", "/b", "/b!", "/b/B", "/b/a", "/b/a/\xff", "/b/z"}
	if got := paths(); !slices.Equal(got, want) {
		t.Errorf("All = %q", got)
	}
	s.All()[0].Path = "/x"
	if got := paths(); !slices.Equal(got, want) {
		t.Error("All shares memory") // R4
	}
	told, _ := tree.New(dir("/"), leaf("/a", "x"))
	if got := told.All(); !slices.Equal(got, []api.Node{dir("/"), leaf("/a", "x")}) {
		t.Errorf("All = %v", got)
	}
}

func TestAsk(t *testing.T) { // P15.2
	s := some(t)
	s.Look("/b")
	s.Names("/b")
	s.All()
	if s.Asked() != 0 {
		t.Errorf("asked %d times", s.Asked())
	}
	var all sync.WaitGroup
	for range 4 {
		all.Add(1)
		go func() {
			defer all.Done()
			for range 100 {
				s.Ask()
			}
		}()
	}
	all.Wait()
	if s.Asked() != 400 {
		t.Errorf("asked %d times", s.Asked())
	}
	if other := some(t); other.Asked() != 0 {
		t.Error("trees count together")
	}
}

func TestNothing(t *testing.T) { // R3
	var s *tree.Tree
	s.Ask()
	n, ok := s.Look("/")
	names, also := s.Names("/")
	if n != (api.Node{}) || ok || names != nil || also || s.All() != nil || s.Asked() != 0 {
		t.Error("a nil tree tells something")
	}
	s = &tree.Tree{}
	s.Look("/")
	s.Names("/")
	s.All()
	s.Ask()
}

func TestArgumentsStay(t *testing.T) { // R4
	nodes := []api.Node{dir("/b"), leaf("/b/c", "1"), leaf("/a", "2")}
	was := slices.Clone(nodes)
	s, _ := tree.New(nodes...)
	if !slices.Equal(nodes, was) {
		t.Error("New changed what was handed in")
	}
	nodes[1].Data = "x"
	if n, _ := s.Look("/b/c"); n.Data != "1" {
		t.Error("New keeps what was handed in")
	}
}
