package cjs

import (
	"gossamer/api"
	"gossamer/climb"
	"gossamer/file"
	"gossamer/gate"
	"gossamer/paths"
	"gossamer/shed"
	"gossamer/tree"
)

// bare is a bare specifier, and the way up on which it is looked for. What its
// methods tell is meant, with its code, only if they tell true, too.
type bare struct {
	tree       *tree.Tree
	named      bool // the specifier is one of a package, and these are its parts
	name, rest string
	up         climb.Way
	conds      []string
}

func look(t *tree.Tree, spec string, from api.URL, conds []string) bare {
	b := bare{tree: t, conds: conds}
	name, rest, code := shed.Split(spec)
	b.named, b.name, b.rest = code == api.OK, name, rest
	b.up, _ = climb.Up(t, from)
	return b
}

// itself tells what the package to which the file belongs lets out, if that is
// the one that is named.
func (b bare) itself() (api.URL, bool, api.Errno) {
	if !b.named {
		return api.URL{}, false, api.OK
	}
	p, ok := b.up.Scope()
	if !ok {
		return api.URL{}, false, api.OK
	}
	folder, _ := file.Folder(p)
	says, _, code := shed.Read(b.tree, folder)
	if code != api.OK {
		return api.URL{}, true, code
	}
	if !says.HasExports || !says.HasName || says.Name != b.name {
		return api.URL{}, false, api.OK
	}
	u, code := gate.Exports(folder, b.rest, says, b.conds)
	return u, true, code
}

// modules tells the paths where packages may lie, the nearest one first.
func (b bare) modules() []string {
	var all []string
	for _, folder := range b.up.Folders() {
		if _, name := paths.Part(folder); name != climb.Modules {
			all = append(all, paths.Below(folder, climb.Modules))
		}
	}
	return all
}

// inside tells what the package that lies there lets out, if it says what.
func (b bare) inside(modules string) (api.URL, bool, api.Errno) {
	if !b.named {
		return api.URL{}, false, api.OK
	}
	folder, code := file.Folder(paths.Below(modules, b.name))
	if code != api.OK {
		return api.URL{}, false, api.OK // it is not clean
	}
	says, ok, code := shed.Read(b.tree, folder)
	switch {
	case !ok:
		return api.URL{}, false, api.OK
	case code != api.OK:
		return api.URL{}, true, code
	case !says.HasExports:
		return api.URL{}, false, api.OK
	}
	u, code := gate.Exports(folder, b.rest, says, b.conds)
	return u, true, code
}
