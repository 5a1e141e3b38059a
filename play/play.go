// Package play lets sessions do what steps ask for: scripts tell them, and the
// judge looks on.
package play

import (
	"gossamer/api"
	"gossamer/desk"
)

// Kinds of steps.
const (
	File = 1
	Dir  = 2
	Link = 3
	Map  = 4
	HTML = 5
	ESM  = 6
	CJS  = 7
)

// Step is a node of the tree, or something that a session is asked.
type Step struct {
	Kind  int
	Texts []string
}

// Node tells of which kind the node is that a kind of step stands for; 0, if
// it stands for none.
func Node(kind int) int {
	switch kind {
	case File:
		return api.File
	case Dir:
		return api.Dir
	case Link:
		return api.Link
	}
	return 0
}

// Nodes tells the nodes of a tree, and the steps behind them.
func Nodes(steps []Step) ([]api.Node, []Step) {
	var nodes []api.Node
	for i, s := range steps {
		kind := Node(s.Kind)
		if kind == 0 {
			return nodes, steps[i:]
		}
		n := api.Node{Path: s.Texts[0], Kind: kind}
		if kind != api.Dir {
			n.Data = s.Texts[1]
		}
		nodes = append(nodes, n)
	}
	return nodes, nil
}

// Answer tells what a session answers to a step.
func Answer(d *desk.Desk, s Step) api.Answer {
	way := 0
	switch s.Kind {
	case Map:
		return d.Register([]byte(s.Texts[0]), s.Texts[1])
	case HTML:
		way = api.HTML
	case ESM:
		way = api.ESM
	case CJS:
		way = api.CJS
	}
	return d.Resolve(way, s.Texts[0], s.Texts[1], s.Texts[2:]...)
}
