// Package made makes trees from short texts, for the tests of the layers that
// look at trees.
package made

import (
	"strings"

	"gossamer/api"
)

// Nodes tells the nodes of texts: a path alone is a folder, path=data a file,
// path->to a link. The folders above each are made, too.
func Nodes(texts ...string) []api.Node {
	var b builder
	for _, s := range texts {
		p, data, isFile := strings.Cut(s, "=")
		q, to, isLink := strings.Cut(s, "->")
		switch {
		case isFile && (!isLink || len(p) < len(q)):
			b.lay(api.Node{Path: p, Kind: api.File, Data: data})
		case isLink:
			b.lay(api.Node{Path: q, Kind: api.Link, Data: to})
		default:
			b.lay(api.Node{Path: s, Kind: api.Dir})
		}
	}
	return b.nodes
}

type builder struct {
	nodes []api.Node
}

// lay lays a node, in the place of one that is there.
func (b *builder) lay(n api.Node) {
	if i := b.find(n.Path); i >= 0 {
		b.nodes[i] = n
		return
	}
	if i := strings.LastIndexByte(n.Path, '/'); i > 0 && b.find(n.Path[:i]) < 0 {
		b.lay(api.Node{Path: n.Path[:i], Kind: api.Dir})
	}
	b.nodes = append(b.nodes, n)
}

func (b *builder) find(p string) int {
	for i, n := range b.nodes {
		if n.Path == p {
			return i
		}
	}
	return -1
}
