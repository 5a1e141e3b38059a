// Package gate tells what packages let out as URLs in their parts.
package gate

import (
	"strings"

	"gossamer/api"
	"gossamer/door"
	"gossamer/url"
	"gossamer/ushow"
)

// Exports tells the URL that the package in a folder lets out.
func Exports(folder api.URL, rest string, says api.Package, conds []string) (api.URL, api.Errno) {
	led, code := door.Exports(folder, rest, says.Exports, conds...)
	if code != api.OK {
		return api.URL{}, code
	}
	return Read(folder, led.URL), api.OK
}

// Read reads a URL within a folder that was told. It may be longer than what
// url reads, for telling by % makes longer: then its parts are as they stand.
func Read(folder api.URL, s string) api.URL {
	if u, code := url.Parse(s); code == api.OK {
		return u
	}
	u := api.URL{Scheme: folder.Scheme, User: folder.User, Pass: folder.Pass, Host: folder.Host, Port: folder.Port}
	s = strings.TrimPrefix(s, ushow.Show(u)+"/")
	s, u.Fragment, u.HasFragment = strings.Cut(s, "#")
	s, u.Query, u.HasQuery = strings.Cut(s, "?")
	u.Path = strings.Split(s, "/")
	return u
}
