package url

import (
	"slices"
	"strings"

	"gossamer/api"
	"gossamer/segs"
)

// reader reads a URL from the left.
type reader struct {
	u       api.URL
	base    *api.URL // nil, if there is none
	bare    bool     // there is no scheme but the base's
	special bool
	rest    string // what is not read yet
}

// parts goes from part to part; each takes from the rest what is its own.
func (r *reader) parts() api.Errno {
	code := r.scheme()
	switch {
	case code != api.OK:
		return code
	case r.u.Opaque:
		goto tail
	case r.u.Scheme == "file":
		if code = r.file(); code != api.OK {
			return code
		}
		goto tail
	case r.bare || r.special && r.based() && !strings.HasPrefix(r.rest, "//"):
		goto relative
	case r.special:
		r.skipSlashes()
		goto authority
	case r.take("//"):
		goto authority
	case r.take("/"):
		goto path
	}
	r.opaque()
	goto tail

relative:
	if r.slash(0) && r.slash(1) {
		r.skipSlashes()
		goto authority
	}
	r.keepAuthority()
	if r.takeSlash() {
		goto path
	}
	if r.keepPath(); r.stays() {
		goto tail
	}
	r.shorten()
	goto path

authority:
	if code = r.authority(); code != api.OK {
		return code
	}
	if !r.special && r.atTail() {
		goto tail
	}
	r.takeSlash()

path:
	r.path()

tail:
	r.query()
	r.fragment()
	return api.OK
}

// file takes what is a file's, up to the end of the path.
func (r *reader) file() api.Errno {
	r.u.Host.Kind = api.Empty
	if r.slash(0) && r.slash(1) {
		r.rest = r.rest[2:]
		goto host
	}
	if r.takeSlash() {
		r.keepDrive()
		goto path
	}
	if !r.based() {
		goto path
	}
	r.u.Host = r.base.Host
	if r.keepPath(); r.stays() {
		return api.OK
	}
	r.shortenForDrive()
	goto path

host:
	if segs.Drive(r.rest[:r.hostEnd()]) {
		goto path // a host's place is where drives are often told
	}
	if code := r.fileHost(); code != api.OK {
		return code
	}
	r.takeSlash()

path:
	r.path()
	return api.OK
}

// scheme finds by which scheme the rest is read. By an opaque base there is
// nothing to be read but a fragment.
func (r *reader) scheme() api.Errno {
	scheme, rest, has := Scheme(r.rest)
	switch {
	case has:
		r.rest = rest
	case r.base == nil, r.base.Opaque && !strings.HasPrefix(r.rest, "#"):
		return api.ErrURL
	default:
		scheme = r.base.Scheme
	}
	r.bare = !has
	r.u.Scheme = scheme
	_, r.special = Special(scheme)
	if r.bare && r.base.Opaque {
		r.u.Opaque = true
		r.keepPath()
		r.keepQuery()
	}
	return api.OK
}

// based tells whether there is a base of this scheme.
func (r *reader) based() bool {
	return r.base != nil && r.base.Scheme == r.u.Scheme
}

func (r *reader) slash(at int) bool {
	return at < len(r.rest) && (r.rest[at] == '/' || r.special && r.rest[at] == '\\')
}

func (r *reader) takeSlash() bool {
	if !r.slash(0) {
		return false
	}
	r.rest = r.rest[1:]
	return true
}

// skipSlashes takes the slashes ahead of an authority: all of special schemes,
// else two.
func (r *reader) skipSlashes() {
	for n := 0; r.slash(0) && (r.special || n < 2); n++ {
		r.rest = r.rest[1:]
	}
}

func (r *reader) take(s string) bool {
	rest, ok := strings.CutPrefix(r.rest, s)
	r.rest = rest
	return ok
}

// atTail tells whether a query, a fragment or the end comes.
func (r *reader) atTail() bool {
	return r.rest == "" || r.rest[0] == '?' || r.rest[0] == '#'
}

// stays tells whether the base's path stays as it is. Then its query does, too,
// unless one comes.
func (r *reader) stays() bool {
	if r.rest == "" || r.rest[0] == '#' {
		r.keepQuery()
	}
	return r.atTail()
}

func (r *reader) keepAuthority() {
	r.u.User, r.u.Pass = r.base.User, r.base.Pass
	r.u.Host, r.u.Port = r.base.Host, r.base.Port
}

func (r *reader) keepPath() {
	r.u.Path = slices.Clone(r.base.Path)
}

func (r *reader) keepQuery() {
	r.u.HasQuery, r.u.Query = r.base.HasQuery, r.base.Query
}

// keepDrive keeps what a path from a slash on keeps of a file's base.
func (r *reader) keepDrive() {
	if !r.based() {
		return
	}
	r.u.Host = r.base.Host
	if !segs.Begins(r.rest) && len(r.base.Path) > 0 && segs.Fixed(r.base.Path[0]) {
		r.u.Path = []string{r.base.Path[0]}
	}
}

// shorten is segs.Shorter without a new list: a path may have very many parts
// that lead up.
func (r *reader) shorten() {
	n := len(r.u.Path)
	if n == 0 || n == 1 && r.u.Scheme == "file" && segs.Fixed(r.u.Path[0]) {
		return
	}
	r.u.Path = r.u.Path[:n-1]
}

func (r *reader) shortenForDrive() {
	if segs.Begins(r.rest) {
		r.u.Path = nil
	} else {
		r.shorten()
	}
}
