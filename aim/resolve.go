package aim

import (
	"strings"

	"gossamer/api"
	"gossamer/pkg"
	"gossamer/url"
	"gossamer/ushow"
	"gossamer/value"
)

// mostAway is the most bytes of a specifier that is told.
const mostAway = 1<<31 - 1

// Resolve tells what a target leads to.
func Resolve(folder api.URL, target api.Value, star string, has bool, inner bool, conds ...string) (Led, api.Errno) {
	if !value.Within(target, api.MaxDeep) {
		return Led{}, api.ErrTarget
	}
	r := resolver{folder: folder, star: star, has: has, inner: inner, conds: map[string]struct{}{"default": {}}}
	for _, c := range conds {
		r.conds[c] = struct{}{}
	}
	return r.target(target)
}

// resolver holds what stays the same from target to target.
type resolver struct {
	folder     api.URL
	star       string
	has, inner bool
	conds      map[string]struct{}
}

func (r *resolver) target(v api.Value) (Led, api.Errno) {
	switch v.Kind {
	case api.String:
		if rest, ok := strings.CutPrefix(v.S, "./"); ok {
			return r.file(v.S, rest)
		}
		return r.away(v.S)
	case api.Object:
		return r.object(v)
	case api.Array:
		return r.array(v)
	case api.Null:
		return Led{Kind: Nothing}, api.OK
	}
	return Led{}, api.ErrTarget
}

// away tells the specifier that a target of imports stands for.
func (r *resolver) away(s string) (Led, api.Errno) {
	if !r.inner || strings.HasPrefix(s, "../") || strings.HasPrefix(s, "/") {
		return Led{}, api.ErrTarget
	}
	if _, code := url.Parse(s); code == api.OK {
		return Led{}, api.ErrTarget
	}
	spec, ok := r.fill(s, mostAway)
	if !ok {
		return Led{}, api.ErrSpec
	}
	return Led{Kind: Away, Spec: spec}, api.OK
}

// file tells the URL of a target that lies within the folder.
func (r *resolver) file(s string, rest string) (Led, api.Errno) {
	if Bad(rest) {
		return Led{}, api.ErrTarget
	}
	told, ok := r.join(s)
	switch {
	case !ok:
		return Led{}, api.ErrTarget
	case !r.has:
		return Led{Kind: Found, URL: told}, api.OK
	case Bad(r.star):
		return Led{}, api.ErrSpec
	}
	if told, ok = r.fill(told, api.MaxBytes); ok {
		told, ok = r.join(told)
	}
	if !ok {
		return Led{}, api.ErrSpec
	}
	return Led{Kind: Found, URL: told}, api.OK
}

// join tells the URL of a text, if there is one, and it lies within the folder.
func (r *resolver) join(s string) (string, bool) {
	u, code := url.Join(s, r.folder)
	if code != api.OK || !Within(r.folder, u) {
		return "", false
	}
	return ushow.Show(u), true
}

// fill lays the star into its places; false, if that would be too long: many
// stars of a long text are more than there is room for.
func (r *resolver) fill(s string, most int) (string, bool) {
	if !r.has {
		return s, true
	}
	stars := strings.Count(s, "*")
	if len(s)+stars*(len(r.star)-1) > most {
		return "", false
	}
	return strings.ReplaceAll(s, "*", r.star), true
}

func (r *resolver) object(v api.Value) (Led, api.Errno) {
	for _, key := range v.K {
		if pkg.Index(key) {
			return Led{}, api.ErrConfig
		}
	}
	for i := range min(len(v.K), len(v.L)) {
		if _, ok := r.conds[v.K[i]]; !ok {
			continue
		}
		if led, code := r.target(v.L[i]); code != api.OK || led.Kind != Undefined {
			return led, code
		}
	}
	return Led{Kind: Undefined}, api.OK
}

// array tells the first target that leads anywhere, or what the last one says.
func (r *resolver) array(v api.Value) (Led, api.Errno) {
	if len(v.L) == 0 {
		return Led{Kind: Nothing}, api.OK
	}
	last, wrong := Led{Kind: Undefined}, api.OK
	for i := range v.L {
		led, code := r.target(v.L[i])
		switch {
		case code == api.ErrTarget:
			last, wrong = Led{}, code
		case code != api.OK, led.Kind == Found, led.Kind == Away:
			return led, code
		case led.Kind == Nothing:
			last, wrong = led, api.OK
		}
	}
	return last, wrong
}
