package link_test

import (
	"math/rand"
	"strconv"
	"strings"
	"testing"

	"gossamer/api"
	"gossamer/file"
	"gossamer/link"
	"gossamer/tree"
)

func dir(p string) api.Node      { return api.Node{Path: p, Kind: api.Dir} }
func leaf(p string) api.Node     { return api.Node{Path: p, Kind: api.File, Data: "x"} }
func to(p, data string) api.Node { return api.Node{Path: p, Kind: api.Link, Data: data} }

func some(t *testing.T) *tree.Tree {
	t.Helper()
	s, code := tree.New(
		dir("/a"), dir("/a/b"), leaf("/a/b/f"), leaf("/f"), dir("/a/..."),
		to("/loop", "/loop"), to("/x", "y"), to("/y", "x"), to("/root", "/"), to("/up", ".."), to("/a/b/up", ".."), to("/a/b/far", "../../f"), to("/ab", "a/b"), to("/abs", "/a/b/"), to("/none", "nowhere"), to("/self", "."), to("/deep", "ab/far"),
		to("/a/b/here", "f"), to("/slash", "f/"), to("/dots", "./a/./b/../b//f"), to("/under", "f/g"), to("/a/out", "/root/a/b"),
	)
	if code != api.OK {
		t.Fatal(code)
	}
	return s
}

func TestReal(t *testing.T) { // P16.1
	s := some(t)
	for p, want := range map[string]string{
		"/": "/", "//": "/", "/.": "/", "/..": "/", "/../..": "/", "/a": "/a", "/a/": "/a", "/a/.": "/a", "/a/..": "/", "//a//b/": "/a/b", "/a/../a/./b": "/a/b", "/a/b/../..": "/", "/a/...": "/a/...", "/root": "/", "/root/a": "/a", "/up": "/", "/a/b/up": "/a", "/a/b/up/b": "/a/b", "/ab/up": "/a", "/ab/..": "/a",
		"/ab": "/a/b", "/abs": "/a/b", "/abs/": "/a/b", "/self": "/", "/self/self/a": "/a", "/root/self/up/a/out/..": "/a", "/a/out": "/a/b",
	} {
		if got, kind, code := link.Real(s, p); got != want || kind != api.Dir || code != api.OK {
			t.Errorf("Real(%q) = %q, %d, %d", p, got, kind, code)
		}
	}
	for p, want := range map[string]string{
		"/f": "/f", "/root/root/f": "/f", "/f/": "/f", "/f/.": "/f", "/f//./": "/f", "/a/b/f": "/a/b/f", "/ab/f": "/a/b/f", "/ab/far": "/f", "/a/b/far": "/f", "/deep": "/f", "/deep/.": "/f", "/abs/here": "/a/b/f", "/slash": "/f", "/slash/": "/f", "/dots": "/a/b/f", "/ab/../b/f": "/a/b/f", "/../f": "/f", "/a/out/f": "/a/b/f",
	} {
		if got, kind, code := link.Real(s, p); got != want || kind != api.File || code != api.OK {
			t.Errorf("Real(%q) = %q, %d, %d", p, got, kind, code)
		}
	}
	for p, want := range map[string]api.Errno{
		"": api.ErrArg, "a": api.ErrArg, "./a": api.ErrArg, " /": api.ErrArg, "/c": api.ErrNone, "/a/c": api.ErrNone, "/f/g": api.ErrNone, "/f/..": api.ErrNone, "/f/../a": api.ErrNone, "/f/./..": api.ErrNone, "/c/..": api.ErrNone, "/none": api.ErrNone, "/none/..": api.ErrNone, "/a/b/f/f": api.ErrNone, "/under": api.ErrNone, "/slash/..": api.ErrNone, "/A": api.ErrNone, "/....": api.ErrNone, "/%61": api.ErrNone, "/f/ ": api.ErrNone,
		"/loop": api.ErrLoop, "/loop/a": api.ErrLoop, "/x": api.ErrLoop, "/y/..": api.ErrLoop, "/a/../x": api.ErrLoop, "/loop/c": api.ErrLoop, "/a\x00": api.ErrNone,
		strings.Repeat("/", api.MaxBytes+1): api.ErrSize, strings.Repeat("a", api.MaxBytes+1): api.ErrArg, "/" + strings.Repeat("a", api.MaxBytes): api.ErrSize,
	} {
		if got, kind, code := link.Real(s, p); got != "" || kind != 0 || code != want {
			t.Errorf("Real(%.20q) = %q, %d, %d", p, got, kind, code)
		}
	}
	if got, kind, code := link.Real(nil, "/"); got != "" || kind != 0 || code != api.ErrNil {
		t.Errorf("Real without a tree = %q, %d, %d", got, kind, code)
	}
}

func TestMostLinks(t *testing.T) { // P16.1
	nodes := []api.Node{leaf("/0"), dir("/d"), to("/d/s", ".")}
	for i := 1; i <= api.MaxLinks+1; i++ {
		nodes = append(nodes, to("/"+strconv.Itoa(i), strconv.Itoa(i-1)))
	}
	s, _ := tree.New(nodes...)
	for p, want := range map[string]api.Errno{
		"/" + strconv.Itoa(api.MaxLinks): api.OK, "/" + strconv.Itoa(api.MaxLinks+1): api.ErrLoop,
		"/d" + strings.Repeat("/s", api.MaxLinks): api.OK, "/d" + strings.Repeat("/s", api.MaxLinks) + "/./..//d": api.OK, "/d" + strings.Repeat("/s", api.MaxLinks+1): api.ErrLoop, "/d" + strings.Repeat("/s", api.MaxLinks) + "/x/s": api.ErrNone,
	} {
		if got, _, code := link.Real(s, p); code != want {
			t.Errorf("Real(%s) = %q, %d", p, got, code)
		}
	}
}

func TestAsks(t *testing.T) { // P16.1
	s := some(t)
	for i, p := range []string{"/", "", "/c", "/loop", strings.Repeat("/", api.MaxBytes+1), "/deep"} {
		link.Real(s, p)
		if s.Asked() != i+1 {
			t.Errorf("behind %.10q asked %d times", p, s.Asked())
		}
	}
}

// plain is the chapter's way, part by part.
func plain(s *tree.Tree, p string) (string, int, api.Errno) {
	here, left, links := "/", strings.Split(p, "/"), 0
	for len(left) > 0 {
		part := left[0]
		left = left[1:]
		n, _ := s.Look(here)
		switch {
		case part == "" || part == ".":
			continue
		case n.Kind != api.Dir:
			return "", 0, api.ErrNone
		case part == "..":
			if here = here[:strings.LastIndex(here, "/")]; here == "" {
				here = "/"
			}
			continue
		}
		next, ok := s.Look(strings.TrimSuffix(here, "/") + "/" + part)
		switch {
		case !ok:
			return "", 0, api.ErrNone
		case next.Kind != api.Link:
			here = next.Path
			continue
		case links == api.MaxLinks:
			return "", 0, api.ErrLoop
		}
		links++
		left = append(strings.Split(next.Data, "/"), left...)
		if next.Data[0] == '/' {
			here = "/"
		}
	}
	n, _ := s.Look(here)
	return here, n.Kind, api.OK
}

func TestLikeThePlainWay(t *testing.T) { // P16.1
	s := some(t)
	parts := []string{"a", "b", "f", "..", ".", "", "loop", "root", "up", "ab", "far", "none", "deep", "slash", "out", "..."}
	var try func(p string, deep int)
	try = func(p string, deep int) {
		got, kind, code := link.Real(s, p)
		if want, also, ok := plain(s, p); p != "" && (got != want || kind != also || code != ok) {
			t.Errorf("Real(%q) = %q, %d, %d, want %q, %d, %d", p, got, kind, code, want, also, ok)
		}
		if deep > 0 {
			for _, part := range parts {
				try(p+"/"+part, deep-1)
			}
		}
	}
	try("", 4)
}

func TestManyTrees(t *testing.T) { // P16.1
	r := rand.New(rand.NewSource(16))
	name := func() string {
		return []string{"a", "b", "c", "dd", "..", ".", "", "/", "../", strings.Repeat("e", 255), strings.Repeat("f", 200)}[r.Intn(11)]
	}
	way := func(most int) string {
		s := ""
		for range 1 + r.Intn(most) {
			s += name() + "/"
		}
		return strings.TrimRight(s, "/") + []string{"", "/"}[r.Intn(2)]
	}
	for range 2000 {
		var nodes []api.Node
		dirs := []string{""}
		for range r.Intn(40) {
			p := dirs[r.Intn(len(dirs))] + "/" + name()
			switch r.Intn(4) {
			case 0:
				nodes = append(nodes, leaf(p))
			case 1:
				nodes = append(nodes, to(p, way(5)))
			default:
				nodes = append(nodes, dir(p))
				dirs = append(dirs, p)
			}
			if _, code := tree.New(nodes...); code != api.OK {
				nodes = nodes[:len(nodes)-1]
				if n := len(dirs) - 1; n > 0 && dirs[n] == p {
					dirs = dirs[:n]
				}
			}
		}
		s, code := tree.New(nodes...)
		if code != api.OK {
			t.Fatal(code)
		}
		for range 60 {
			p := "/" + way(12)
			got, kind, code := link.Real(s, p)
			if want, also, ok := plain(s, p); got != want || kind != also || code != ok {
				t.Fatalf("Real(%q) = %q, %d, %d, want %q, %d, %d", p, got, kind, code, want, also, ok)
			}
		}
	}
}

func TestLongNames(t *testing.T) { // P16.1
	name := "/" + strings.Repeat("n", 127)
	nodes := []api.Node{}
	for i := 1; i <= 7; i++ {
		nodes = append(nodes, dir(strings.Repeat(name, i)))
	}
	full := strings.Repeat(name, 7) + "/" + strings.Repeat("m", 127)
	long := strings.Repeat("o", api.MaxPart)
	nodes = append(nodes, leaf(full), to("/l", full[1:]), leaf("/"+long), to("/k", long))
	s, code := tree.New(nodes...)
	if code != api.OK {
		t.Fatal(code)
	}
	for p, want := range map[string]api.Errno{full: api.OK, full + "/": api.OK, full + "m": api.ErrNone, full + "/m": api.ErrNone, full + strings.Repeat("/", 99): api.OK, full + strings.Repeat("m", 999): api.ErrNone, "/l": api.OK, "/k": api.OK, "/" + long: api.OK, "/./" + long: api.OK, "/./" + long + "o": api.ErrNone, strings.Repeat(name, 7) + strings.Repeat("/..", 9) + "/l": api.OK, "/" + strings.Repeat("./", 2000) + full: api.OK} {
		if _, _, code := link.Real(s, p); code != want {
			t.Errorf("Real of %d bytes: %d", len(p), code)
		}
	}
}

func TestLeadsToItself(t *testing.T) { // P16.2
	s := some(t)
	parts := []string{"a", "b", "f", "..", ".", "", "x", "root", "up", "ab", "abs", "far", "self", "deep", "here", "slash", "dots", "out"}
	var try func(p string, deep int)
	try = func(p string, deep int) {
		got, kind, code := link.Real(s, p)
		if again, also, ok := link.Real(s, got); code == api.OK && (!file.Clean(got) || again != got || also != kind || ok != api.OK) {
			t.Errorf("%q leads to %q, that to %q", p, got, again)
		}
		if n, _ := s.Look(got); code == api.OK && n.Kind != kind {
			t.Errorf("%q leads to %q, of kind %d", p, got, kind)
		}
		if deep > 0 {
			for _, part := range parts {
				try(p+"/"+part, deep-1)
			}
		}
	}
	try("", 4)
}

func TestMegabyte(t *testing.T) {
	s := some(t)
	for _, p := range []string{strings.Repeat("/", api.MaxBytes), strings.Repeat("/.", api.MaxBytes/2), strings.Repeat("/a/..", api.MaxBytes/5), "/a/b" + strings.Repeat("/../b", 200000), strings.Repeat("/..", api.MaxBytes/3)} {
		if _, _, code := link.Real(s, p); code != api.OK {
			t.Errorf("Real(%.10q..): %d", p, code)
		}
	}
}
