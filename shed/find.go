package shed

import (
	"strings"

	"gossamer/aim"
	"gossamer/api"
	"gossamer/climb"
	"gossamer/door"
	"gossamer/file"
	"gossamer/gate"
	"gossamer/paths"
	"gossamer/tree"
	"gossamer/url"
)

// Find tells what a bare specifier means: of the package itself, or of one that
// lies in a folder above.
func Find(t *tree.Tree, spec string, from api.URL, conds ...string) (api.URL, api.Errno) {
	if t == nil {
		return api.URL{}, api.ErrNil
	}
	name, rest, code := Split(spec)
	if code != api.OK {
		return api.URL{}, code
	}
	w, ok := climb.Up(t, from)
	if !ok {
		return api.URL{}, api.ErrNone
	}
	if folder, ok := scope(w); ok {
		says, _, code := Read(t, folder)
		if code != api.OK {
			return api.URL{}, code
		}
		if says.HasExports && says.HasName && says.Name == name {
			return gate.Exports(folder, rest, says, conds)
		}
	}
	if len(name) > api.MaxBytes || !file.Clean("/"+name) {
		return api.URL{}, api.ErrNone
	}
	for _, above := range w.Folders() {
		p := paths.Below(above, climb.Modules+"/"+name)
		if climb.Kind(t, p) != api.Dir {
			continue
		}
		if folder, code := file.Folder(p); code == api.OK {
			return inside(t, folder, rest, conds)
		}
	}
	return api.URL{}, api.ErrNone
}

// inside tells what is meant of the package in a folder.
func inside(t *tree.Tree, folder api.URL, rest string, conds []string) (api.URL, api.Errno) {
	says, _, code := Read(t, folder)
	switch {
	case code != api.OK:
		return api.URL{}, code
	case says.HasExports:
		return gate.Exports(folder, rest, says, conds)
	case rest == "." && says.HasMain:
		return url.Join(says.Main, folder)
	}
	return url.Join(rest, folder)
}

// Inner tells what a package means by a name of its own.
func Inner(t *tree.Tree, spec string, from api.URL, conds ...string) (api.URL, api.Errno) {
	if t == nil {
		return api.URL{}, api.ErrNil
	}
	if spec == "#" || strings.HasPrefix(spec, "#/") {
		return api.URL{}, api.ErrSpec
	}
	folder, ok := Scope(t, from)
	if !ok {
		return api.URL{}, api.ErrImports
	}
	says, _, code := Read(t, folder)
	switch {
	case code != api.OK:
		return api.URL{}, code
	case !says.HasImports:
		return api.URL{}, api.ErrImports
	}
	led, code := door.Imports(folder, spec, says.Imports, conds...)
	switch {
	case code != api.OK:
		return api.URL{}, code
	case led.Kind == aim.Away:
		return Find(t, led.Spec, folder, conds...)
	}
	return gate.Read(folder, led.URL), api.OK
}
