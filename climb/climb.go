// Package climb goes up from a file through the folders above it, as far as a
// tree has them.
package climb

import (
	"slices"
	"sort"
	"strings"

	"gossamer/api"
	"gossamer/file"
	"gossamer/link"
	"gossamer/paths"
	"gossamer/tree"
)

// Modules is the name of the folders in which packages lie.
const Modules = "node_modules"

// Way is a way up.
type Way struct {
	tree    *tree.Tree
	folders []string // the nearest one first
	near    int      // from here on they lead to folders of the tree
}

// Up tells the way up from a URL; false, if it is no file's.
func Up(t *tree.Tree, from api.URL) (Way, bool) {
	p, code := file.Path(from)
	if code != api.OK {
		return Way{}, false
	}
	w := Way{tree: t, folders: above(p)}
	// If a folder leads nowhere, what is below it does not, either: most of a
	// long way is told by a few looks.
	w.near = sort.Search(len(w.folders), func(i int) bool { return Kind(t, w.folders[i]) == api.Dir })
	return w, true
}

// above tells the folders above a path, as far as they are clean.
func above(p string) []string {
	folders := []string{"/"}
	for at := 1; at < len(p); {
		n := strings.IndexByte(p[at:], '/')
		if n < 0 || n == 0 || p[at:at+n] == "." || p[at:at+n] == ".." {
			break
		}
		folders = append(folders, p[:at+n])
		at += n + 1
	}
	slices.Reverse(folders)
	return folders
}

// Folders tells the folders that are on the tree, the nearest one first.
func (w Way) Folders() []string {
	return w.folders[w.near:]
}

// Scope tells the nearest folder that has a package.json; packages do not count
// for what lies between them.
func (w Way) Scope() (string, bool) {
	for i, folder := range w.folders {
		if _, name := paths.Part(folder); name == Modules {
			return "", false
		}
		if i >= w.near && Kind(w.tree, paths.Below(folder, "package.json")) == api.File {
			return folder, true
		}
	}
	return "", false
}

// Kind tells the kind of what a path leads to; 0, if it leads nowhere.
func Kind(t *tree.Tree, p string) int {
	_, kind, _ := link.Real(t, p)
	return kind
}
