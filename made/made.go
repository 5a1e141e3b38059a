// Package made makes URLs, values, maps and trees from short texts, for the
// tests of many layers. A text of which nothing can be made is a fault of the
// test: then it panics.
package made

import (
	"strconv"
	"strings"

	"gossamer/api"
	"gossamer/imap"
	"gossamer/jval"
	"gossamer/tree"
	"gossamer/url"
)

func must(code api.Errno, of string) {
	if code != api.OK {
		panic(of + ": " + strconv.Itoa(int(code)))
	}
}

// URL makes a URL.
func URL(s string) api.URL {
	u, code := url.Parse(s)
	must(code, s)
	return u
}

// Value makes a value of JSON.
func Value(s string) api.Value {
	v, _, code := jval.Parse([]byte(s))
	must(code, s)
	return v
}

// Map makes an import map, by a base.
func Map(s string, base string) api.Map {
	m, _, _, code := imap.Parse([]byte(s), URL(base))
	must(code, s)
	return m
}

// Tree makes a tree of the nodes of texts.
func Tree(texts ...string) *tree.Tree {
	t, code := tree.New(Nodes(texts...)...)
	must(code, strings.Join(texts, " "))
	return t
}

// Nodes makes the nodes of texts: a path alone is a folder, path=data a file,
// path->to a link. The folders above each are made, too.
func Nodes(texts ...string) []api.Node {
	var b builder
	for _, s := range texts {
		p, data, isFile := strings.Cut(s, "=")
		q, to, isLink := strings.Cut(s, "->")
		switch {
		case isFile && (!isLink || len(p) < len(q)):
			b.lay(api.Node{Path: p, Kind: api.File, Data: data})
		case isLink:
			b.lay(api.Node{Path: q, Kind: api.Link, Data: to})
		default:
			b.lay(api.Node{Path: s, Kind: api.Dir})
		}
	}
	return b.nodes
}

type builder struct {
	nodes []api.Node
}

// lay lays a node, in the place of one that is there.
func (b *builder) lay(n api.Node) {
	if i := b.find(n.Path); i >= 0 {
		b.nodes[i] = n
		return
	}
	if i := strings.LastIndexByte(n.Path, '/'); i > 0 && b.find(n.Path[:i]) < 0 {
		b.lay(api.Node{Path: n.Path[:i], Kind: api.Dir})
	}
	b.nodes = append(b.nodes, n)
}

func (b *builder) find(p string) int {
	for i, n := range b.nodes {
		if n.Path == p {
			return i
		}
	}
	return -1
}
