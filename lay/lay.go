// Package lay lays import maps behind one another. A session has a map that
// grows long, line by line: what stays as it is is not copied here.
package lay

import (
	"slices"
	"strings"

	"gossamer/api"
)

// Uses tells whether what was resolved would have asked for a key.
func Uses(r api.Record, key string) bool {
	return key == r.Spec || strings.HasSuffix(key, "/") && strings.HasPrefix(r.Spec, key) && far(r)
}

// far tells whether keys that end with / count for what was resolved.
func far(r api.Record) bool {
	return !r.URL || r.Special
}

// Falling tells a map with all of it falling: its own lists of entries, if they
// are so.
func Falling(m api.Map) api.Map {
	m.Imports, m.Integrity = falling(m.Imports, key), falling(m.Integrity, key)
	m.Scopes = slices.Clone(falling(m.Scopes, prefix))
	for i, s := range m.Scopes {
		m.Scopes[i].Imports = falling(s.Imports, key)
	}
	return m
}

// Behind lays a map behind an old one that falls, but for what would turn what
// was resolved. What it tells may share the old one's memory.
func Behind(old api.Map, more api.Map, rs []api.Record) (api.Map, []api.Warning) {
	m := merger{used: use(rs, more)}
	var whole api.Map
	whole.Scopes = m.scopes(old.Scopes, more.Scopes)
	whole.Integrity = m.entries(old.Integrity, more.Integrity, never, "")
	whole.Imports = m.entries(old.Imports, more.Imports, m.used.any, "")
	return whole, m.warnings
}

// merger warns of what it drops.
type merger struct {
	used     used
	warnings []api.Warning
}

func (m *merger) warn(kind int, scope string, key string) {
	m.warnings = append(m.warnings, api.Warning{Kind: kind, Scope: scope, Key: key})
}

// scopes lays scopes to the old ones.
func (m *merger) scopes(old []api.Scope, more []api.Scope) []api.Scope {
	if len(more) == 0 {
		return old
	}
	whole := slices.Clone(old)
	var fresh []api.Scope
	for _, scope := range more {
		uses := func(key string) bool { return m.used.under(scope.Prefix, key) }
		if i, ok := find(whole, prefix, scope.Prefix); ok {
			whole[i].Imports = m.entries(whole[i].Imports, scope.Imports, uses, scope.Prefix)
		} else {
			imports := m.entries(nil, scope.Imports, uses, scope.Prefix)
			fresh = append(fresh, api.Scope{Prefix: scope.Prefix, Imports: imports})
		}
	}
	return together(whole, falling(fresh, prefix), prefix)
}

// entries lays entries to the old ones: first it drops those that are used, and
// of the others those that are there.
func (m *merger) entries(old []api.Entry, more []api.Entry, uses func(key string) bool, scope string) []api.Entry {
	unused := make([]api.Entry, 0, len(more))
	for _, e := range more {
		if uses(e.Key) {
			m.warn(api.WarnUsed, scope, e.Key)
		} else {
			unused = append(unused, e)
		}
	}
	fresh := make([]api.Entry, 0, len(unused))
	for _, e := range unused {
		if _, twice := find(old, key, e.Key); twice {
			m.warn(api.WarnTwice, scope, e.Key)
		} else {
			fresh = append(fresh, e)
		}
	}
	return together(old, falling(fresh, key), key)
}

func never(string) bool { return false }
