package cjs

import (
	"strings"

	"gossamer/api"
	"gossamer/link"
	"gossamer/pkg"
	"gossamer/tree"
)

// As tells the path of the file that a path means, as a file or as a folder,
// and whether there is one.
func As(t *tree.Tree, p string) (string, bool, api.Errno) {
	if t == nil {
		return "", false, api.ErrNil
	}
	if !strings.HasPrefix(p, "/") {
		return "", false, api.ErrArg
	}
	if found, ok := first(t, p, "", ".js", ".json", ".node"); ok {
		return found, true, api.OK
	}
	main, code := mainOf(t, p)
	if code != api.OK {
		return "", false, code
	}
	if main != "" {
		m := p + "/" + main
		if found, ok := first(t, m, "", ".js", ".json", ".node", "/index.js", "/index.json", "/index.node"); ok {
			return found, true, api.OK
		}
	}
	if found, ok := first(t, p, "/index.js", "/index.json", "/index.node"); ok {
		return found, true, api.OK
	}
	if main != "" {
		return "", false, api.ErrNone
	}
	return "", false, api.OK
}

// first tells where the first of a path with some endings leads that leads to a
// file.
func first(t *tree.Tree, p string, endings ...string) (string, bool) {
	for _, ending := range endings {
		if found, kind, _ := link.Real(t, p+ending); kind == api.File {
			return found, true
		}
	}
	return "", false
}

// mainOf tells the main file that a folder's package.json names, if it does.
func mainOf(t *tree.Tree, folder string) (string, api.Errno) {
	p, kind, _ := link.Real(t, folder+"/package.json")
	if kind != api.File {
		return "", api.OK
	}
	n, _ := t.Look(p)
	says, code := pkg.Read([]byte(n.Data))
	return says.Main, code
}
