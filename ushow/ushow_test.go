package ushow_test

import (
	"strings"
	"testing"

	"gossamer/api"
	"gossamer/url"
	"gossamer/ushow"
)

func host(kind int, s string) api.Host { return api.Host{Kind: kind, S: s} }

func TestShow(t *testing.T) { // P13.1
	h := host(api.Domain, "h")
	for want, u := range map[string]api.URL{
		"x:":               {Scheme: "x", Port: -1},
		"x:o":              {Scheme: "x", Port: -1, Opaque: true, Path: []string{"o", "p"}},
		"x:o?#":            {Scheme: "x", Port: -1, Opaque: true, Path: []string{"o"}, HasQuery: true, HasFragment: true},
		"x:?q":             {Scheme: "x", Port: -1, Opaque: true, HasQuery: true, Query: "q"},
		"x:/.//y":          {Scheme: "x", Port: -1, Path: []string{"", "y"}},
		"x:/.//":           {Scheme: "x", Port: -1, Path: []string{"", ""}},
		"x:/":              {Scheme: "x", Port: -1, Path: []string{""}},
		"x:/y//":           {Scheme: "x", Port: -1, Path: []string{"y", "", ""}},
		"x:/a":             {Scheme: "x", Port: 8, User: "u", Pass: "p", Path: []string{"a"}},
		"x://":             {Scheme: "x", Port: -1, Host: host(api.Empty, "")},
		"x:////y":          {Scheme: "x", Port: -1, Host: host(api.Empty, ""), Path: []string{"", "y"}},
		"x://o":            {Scheme: "x", Port: -1, Host: host(api.Opaque, "o")},
		"x://hab":          {Scheme: "x", Port: -1, Opaque: true, Host: h, Path: []string{"ab"}},
		"http://h/a/b?q#f": {Scheme: "http", Port: -1, Host: h, Path: []string{"a", "b"}, HasQuery: true, Query: "q", HasFragment: true, Fragment: "f"},
		"http://u@h/":      {Scheme: "http", Port: -1, User: "u", Host: h, Path: []string{""}},
		"http://u:p@h/":    {Scheme: "http", Port: -1, User: "u", Pass: "p", Host: h, Path: []string{""}},
		"http://:p@h/":     {Scheme: "http", Port: -1, Pass: "p", Host: h, Path: []string{""}},
		"http://h:0/":      {Scheme: "http", Port: 0, Host: h, Path: []string{""}},
		"http://h:80/":     {Scheme: "http", Port: 80, Host: h, Path: []string{""}},
		"http://h/x":       {Scheme: "http", Port: -7, Host: h, Path: []string{"x"}, Query: "q", Fragment: "f"},
		"http://[1::2]/":   {Scheme: "http", Port: -1, Host: api.Host{Kind: api.IPv6, P: [8]uint16{0: 1, 7: 2}}, Path: []string{""}},
		"http://1.2.3.4/":  {Scheme: "http", Port: -1, Host: api.Host{Kind: api.IPv4, N: 0x01020304}, Path: []string{""}},
		"http:/.//a":       {Scheme: "http", Port: 80, Path: []string{"", "a"}},
		"file:///c:/":      {Scheme: "file", Port: -1, Host: host(api.Empty, ""), Path: []string{"c:", ""}},
	} {
		if got := ushow.Show(u); got != want {
			t.Errorf("Show = %q, want %q", got, want)
		}
	}
}

func TestSame(t *testing.T) { // P13.1
	u := func() api.URL {
		return api.URL{Scheme: "x", User: "u", Pass: "p", Host: api.Host{Kind: api.Opaque, S: "h", N: 1, P: [8]uint16{1}}, Port: 1, Path: []string{"a", "b"}, HasQuery: true, Query: "q", HasFragment: true, Fragment: "f"}
	}
	if !ushow.Same(u(), u()) || !ushow.Same(api.URL{Path: []string{}}, api.URL{}) {
		t.Error("Same of what is the same")
	}
	for i, turn := range []func(*api.URL){
		func(u *api.URL) { u.Scheme = "y" }, func(u *api.URL) { u.User = "" }, func(u *api.URL) { u.Pass = "P" }, func(u *api.URL) { u.Host.Kind = api.Domain }, func(u *api.URL) { u.Host.S = "" }, func(u *api.URL) { u.Host.N = 0 }, func(u *api.URL) { u.Host.P[7] = 1 }, func(u *api.URL) { u.Port = -1 },
		func(u *api.URL) { u.Opaque = true }, func(u *api.URL) { u.Path = []string{"a"} }, func(u *api.URL) { u.Path = []string{"b", "a"} }, func(u *api.URL) { u.Path = nil }, func(u *api.URL) { u.HasQuery = false }, func(u *api.URL) { u.Query = "" }, func(u *api.URL) { u.HasFragment = false }, func(u *api.URL) { u.Fragment = "F" },
	} {
		v := u()
		turn(&v)
		if ushow.Same(u(), v) || ushow.Same(v, u()) {
			t.Errorf("Same, turned by %d", i)
		}
	}
}

func TestText(t *testing.T) { // P13.1
	for in, want := range map[string]string{"HTTP://H:80/a/../b c": "http://h/b%20c", "x:/.//y": "x:/.//y", " x:a ?b": "x:a%20?b", "file:c|": "file:///c:"} {
		if got, code := ushow.Text(in); got != want || code != api.OK {
			t.Errorf("Text(%q) = %q, %d", in, got, code)
		}
	}
	for in, want := range map[string]api.Errno{"": api.ErrURL, "a": api.ErrURL, "http://a b/": api.ErrURL, "http://\u00e9": api.ErrHost, strings.Repeat("x", api.MaxBytes+1): api.ErrSize} {
		if got, code := ushow.Text(in); got != "" || code != want {
			t.Errorf("Text(%.20q) = %q, %d", in, got, code)
		}
	}
}

func TestMay(t *testing.T) { // P13.2
	h := host(api.Domain, "h")
	for i, u := range []api.URL{
		{Scheme: "x", Port: -1, Opaque: true, Path: []string{""}}, {Scheme: "x", Port: -1, Path: []string{"", "y"}}, {Scheme: "x", Port: -1, Host: host(api.Empty, "")}, {Scheme: "http", Port: 0, Host: h, Path: []string{""}}, {Scheme: "x", Port: 80, User: "u", Host: host(api.Opaque, "h")}, {Scheme: "file", Port: -1, Host: host(api.Empty, ""), Path: []string{"c:"}, HasQuery: true},
	} {
		if !ushow.May(u) {
			t.Errorf("%d: %s may not be", i, ushow.Show(u))
		}
	}
	for i, u := range []api.URL{
		{}, {Port: -1}, {Scheme: "x"}, {Scheme: "x", Port: -1}, {Scheme: "x", Port: -1, Opaque: true}, {Scheme: "x", Port: -1, Opaque: true, Path: []string{"a", "b"}}, {Scheme: "x", Port: -1, Opaque: true, Path: []string{"/a"}}, {Scheme: "x", Port: -1, Opaque: true, Path: []string{"a "}}, {Scheme: "X", Port: -1, Opaque: true, Path: []string{"a"}},
		{Scheme: "http", Port: 80, Host: h, Path: []string{""}}, {Scheme: "http", Port: -1, Host: h}, {Scheme: "http", Port: -2, Host: h, Path: []string{""}}, {Scheme: "http", Port: 65536, Host: h, Path: []string{""}}, {Scheme: "http", Port: -1, Host: h, Path: []string{"."}}, {Scheme: "http", Port: -1, Host: h, Path: []string{"a/b"}}, {Scheme: "http", Port: -1, Host: h, Path: []string{"a b"}},
		{Scheme: "http", Port: -1, Host: host(api.Opaque, "h"), Path: []string{""}}, {Scheme: "http", Port: -1, Host: host(api.Domain, "H"), Path: []string{""}}, {Scheme: "http", Port: -1, Host: h, Path: []string{""}, Query: "q"}, {Scheme: "http", Port: -1, Host: h, Path: []string{""}, HasQuery: true, Query: "'"}, {Scheme: "http", Port: -1, Host: h, Path: []string{""}, HasFragment: true, Fragment: " "},
		{Scheme: "http", Port: -1, User: "@", Host: h, Path: []string{""}}, {Scheme: "http", Port: -1, Path: []string{"h"}}, {Scheme: "x", Port: -1, User: "u", Path: []string{"h"}}, {Scheme: "file", Port: -1, Host: host(api.Empty, ""), Path: []string{"c|"}}, {Scheme: "file", Port: -1, Host: host(api.Domain, "localhost"), Path: []string{""}}, {Scheme: "file", Port: 1, Host: h, Path: []string{""}}, {Scheme: "a b", Port: -1, Opaque: true, Path: []string{""}},
		{Scheme: "x", Port: -1, Opaque: true, Path: []string{strings.Repeat("a", api.MaxBytes)}},
	} {
		if ushow.May(u) {
			t.Errorf("%d: %s may be", i, ushow.Show(u))
		}
	}
}

// What is joined here in all ways, by each of the bases, leads through all parts of a URL.
var pieces = []string{"http:", "file:", "x:", "//", "/", "\\", "?", "#", "@", ":", "h", "..", ".", "%2e", "c:", "c|", " ", "\t", "%", "\u00e9", "'", "[::1]", "80"}

func bases() []string {
	return []string{"http://u:p@h:81/a/b?q#f", "http://h/", "file:///c:/x?q", "file:///a/b", "file://h/c:/x", "x:/a/b", "x:/.//a", "x://h", "x://u:p@h:1/a?q", "x:///", "x:o p?q", "data:"}
}

func TestWhatIsToldMayBe(t *testing.T) { // P13.3
	var try func(s string, deep int)
	all := []api.URL{}
	for _, s := range bases() {
		u, code := url.Parse(s)
		if code != api.OK || ushow.Show(u) != s || !ushow.May(u) {
			t.Fatalf("base %q: %q, %d", s, ushow.Show(u), code)
		}
		all = append(all, u)
	}
	try = func(s string, deep int) {
		if u, code := url.Parse(s); code == api.OK && !ushow.May(u) {
			t.Errorf("Parse(%q): %q may not be", s, ushow.Show(u))
		}
		for _, base := range all {
			if u, code := url.Join(s, base); code == api.OK && !ushow.May(u) {
				t.Errorf("Join(%q, %q): %q may not be", s, ushow.Show(base), ushow.Show(u))
			}
		}
		if deep > 0 {
			for _, p := range pieces {
				try(s+p, deep-1)
			}
		}
	}
	try("", 3)
	for _, p := range pieces {
		for _, q := range pieces {
			try("file:///"+p+"/"+q, 1)
			try("x:"+p+q+"/", 1)
		}
	}
}

func TestMegabyte(t *testing.T) { // P13.3
	u, code := url.Parse("http://h/" + strings.Repeat("a/", 500000))
	if code != api.OK || !ushow.May(u) {
		t.Error("a long URL")
	}
}
