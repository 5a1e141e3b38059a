package url

import (
	"strings"

	"gossamer/api"
	"gossamer/ascii"
	"gossamer/host"
	"gossamer/pct"
	"gossamer/segs"
)

// mostPort is the greatest port.
const mostPort = 1<<16 - 1

// slashes has what parts paths.
func (r *reader) slashes() string {
	if r.special {
		return "/\\"
	}
	return "/"
}

// hostEnd tells where a host and what belongs to it end.
func (r *reader) hostEnd() int {
	return index(r.rest, r.slashes()+"?#")
}

// index tells where the first of some bytes stands in s; else s's end.
func index(s string, of string) int {
	if i := strings.IndexAny(s, of); i >= 0 {
		return i
	}
	return len(s)
}

// cut takes the rest's first bytes.
func (r *reader) cut(end int) string {
	s := r.rest[:end]
	r.rest = r.rest[end:]
	return s
}

func (r *reader) authority() api.Errno {
	s := r.cut(r.hostEnd())
	if at := strings.LastIndexByte(s, '@'); at >= 0 {
		user, pass, _ := strings.Cut(s[:at], ":")
		r.u.User, r.u.Pass = pct.Encode(user, api.SetUser), pct.Encode(pass, api.SetUser)
		s = s[at+1:]
		if s == "" {
			return api.ErrURL
		}
	}
	colon := colon(s)
	if colon == 0 || s == "" && r.special {
		return api.ErrURL
	}
	name, port := s, ""
	if colon > 0 {
		name, port = s[:colon], s[colon+1:]
	}
	var code api.Errno
	if r.u.Host, code = host.Parse(name, r.special); code != api.OK {
		return code
	}
	return r.port(port)
}

// colon tells where the : ahead of a port stands; -1, if there is none. Within
// brackets it parts the pieces of an address.
func colon(s string) int {
	within := false
	for i := range len(s) {
		switch s[i] {
		case '[':
			within = true
		case ']':
			within = false
		case ':':
			if !within {
				return i
			}
		}
	}
	return -1
}

func (r *reader) port(s string) api.Errno {
	if s == "" {
		return api.OK
	}
	n := 0
	for i := range len(s) {
		if !ascii.Digit(s[i]) {
			return api.ErrURL
		}
		n = min(n*10+int(s[i]-'0'), mostPort+1)
	}
	if n > mostPort {
		return api.ErrURL
	}
	if own, special := Special(r.u.Scheme); !special || own != n {
		r.u.Port = n
	}
	return api.OK
}

// fileHost reads a file's host; one that is this machine stays empty.
func (r *reader) fileHost() api.Errno {
	s := r.cut(r.hostEnd())
	if s == "" {
		return api.OK
	}
	h, code := host.Parse(s, true)
	if h.Kind != api.Domain || h.S != "localhost" {
		r.u.Host = h
	}
	return code
}

func (r *reader) path() {
	s := r.cut(index(r.rest, "?#"))
	slashes := r.slashes()
	for {
		end := index(s, slashes)
		r.part(s[:end], end == len(s))
		if end == len(s) {
			return
		}
		s = s[end+1:]
	}
}

// part lays a part to the path. The last one stands there even if it leads to a
// folder: then it is empty.
func (r *reader) part(s string, last bool) {
	switch {
	case segs.Dots(s):
		r.shorten()
	case segs.Dot(s):
	case r.u.Scheme == "file" && len(r.u.Path) == 0 && segs.Drive(s):
		r.u.Path = append(r.u.Path, s[:1]+":")
		return
	default:
		r.u.Path = append(r.u.Path, pct.Encode(s, api.SetPath))
		return
	}
	if last {
		r.u.Path = append(r.u.Path, "")
	}
}

// opaque reads a path that is one text. A blank at its end would be lost, if
// what is behind it were taken away.
func (r *reader) opaque() {
	s := r.cut(index(r.rest, "?#"))
	blank := ""
	if r.rest != "" && strings.HasSuffix(s, " ") {
		s, blank = s[:len(s)-1], "%20"
	}
	r.u.Opaque = true
	r.u.Path = []string{pct.Encode(s, api.SetControl) + blank}
}

func (r *reader) query() {
	if !r.take("?") {
		return
	}
	set := api.SetQuery
	if r.special {
		set = api.SetSpecial
	}
	r.u.HasQuery = true
	r.u.Query = pct.Encode(r.cut(index(r.rest, "#")), set)
}

func (r *reader) fragment() {
	if r.take("#") {
		r.u.HasFragment = true
		r.u.Fragment = pct.Encode(r.rest, api.SetFragment)
	}
}
