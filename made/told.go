package made

import (
	"strconv"
	"strings"

	"gossamer/api"
)

// Told tells a map in short: the entries of each part, a scope's behind its
// prefix, those of Integrity behind # .
func Told(m api.Map) string {
	s := entries(m.Imports)
	for _, scope := range m.Scopes {
		s += " {" + scope.Prefix + entries(scope.Imports) + "}"
	}
	if len(m.Integrity) > 0 {
		s += " #" + entries(m.Integrity)
	}
	return s
}

func entries(l []api.Entry) string {
	s := ""
	for _, e := range l {
		s += " " + e.Key + "=" + e.To
		if e.None {
			s += "none"
		}
	}
	return s
}

// Warned tells warnings in short.
func Warned(l []api.Warning) string {
	var s []string
	for _, w := range l {
		s = append(s, strconv.Itoa(w.Kind)+","+w.Scope+","+w.Key)
	}
	return strings.Join(s, ";")
}
