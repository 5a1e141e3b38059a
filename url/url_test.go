package url_test

import (
	"fmt"
	"reflect"
	"slices"
	"strings"
	"testing"

	"gossamer/api"
	"gossamer/url"
)

// told tells a URL's fields in short: no host is -, a host's kind stands ahead
// of what it holds, an opaque path in round brackets.
func told(u api.URL) string {
	s := u.Scheme + " "
	if u.User != "" || u.Pass != "" {
		s += u.User + ":" + u.Pass + "@"
	}
	switch u.Host.Kind {
	case api.NoHost:
		s += "-"
	case api.Empty:
		s += "E"
	case api.IPv4:
		s += fmt.Sprintf("4=%08x", u.Host.N)
	case api.IPv6:
		s += fmt.Sprintf("6=%x", u.Host.P)
	case api.Domain:
		s += "D=" + u.Host.S
	case api.Opaque:
		s += "O=" + u.Host.S
	}
	if u.Port != -1 {
		s += fmt.Sprintf(":%d", u.Port)
	}
	path := strings.Join(u.Path, ",")
	if u.Opaque {
		s += " (" + path + ")"
	} else {
		s += fmt.Sprintf(" %d[%s]", len(u.Path), path)
	}
	if u.HasQuery || u.Query != "" {
		s += " ?" + u.Query
	}
	if u.HasFragment || u.Fragment != "" {
		s += " #" + u.Fragment
	}
	return s
}

func parse(t *testing.T, s string) api.URL {
	t.Helper()
	u, code := url.Parse(s)
	if code != api.OK {
		t.Fatalf("Parse(%q): %d", s, code)
	}
	return u
}

func checkParse(t *testing.T, cases [][2]string) {
	t.Helper()
	for _, c := range cases {
		u, code := url.Parse(c[0])
		if got := told(u); got != c[1] || code != api.OK {
			t.Errorf("Parse(%q) = %q, %d, want %q", c[0], got, code, c[1])
		}
	}
}

func checkJoin(t *testing.T, base string, cases [][2]string) {
	t.Helper()
	b := parse(t, base)
	was := told(b)
	for _, c := range cases {
		u, code := url.Join(c[0], b)
		if got := told(u); got != c[1] || code != api.OK {
			t.Errorf("Join(%q, %q) = %q, %d, want %q", c[0], base, got, code, c[1])
		}
		for i := range u.Path {
			u.Path[i] = "z"
		}
		_ = append(u.Path, "z")
	}
	if told(b) != was {
		t.Errorf("Join changed %q", base) // R4
	}
}

func TestSpecial(t *testing.T) {
	for s, want := range map[string]int{"ftp": 21, "file": 0, "http": 80, "ws": 80, "https": 443, "wss": 443} {
		if port, ok := url.Special(s); port != want || !ok {
			t.Errorf("Special(%q) = %d, %v", s, port, ok)
		}
	}
	for _, s := range []string{"", "HTTP", "x", "data", "httpss", "http:", "javascript"} {
		if port, ok := url.Special(s); port != 0 || ok {
			t.Errorf("Special(%q) = %d, %v", s, port, ok)
		}
	}
}

func TestScheme(t *testing.T) {
	for s, want := range map[string][2]string{"http://h": {"http", "//h"}, "A+b-C.9:": {"a+b-c.9", ""}, "x:y:z": {"x", "y:z"}, "Z:": {"z", ""}, "AZaz09:": {"azaz09", ""}, "a0:": {"a0", ""}} {
		if a, b, ok := url.Scheme(s); a != want[0] || b != want[1] || !ok {
			t.Errorf("Scheme(%q) = %q, %q, %v", s, a, b, ok)
		}
	}
	for _, s := range []string{"", ":", "a", "1a:", "+a:", "-:", ".:", "a b:", "a/b:", "a_b:", "\u00e9:", "a\u00e9:", "@:", "a@:", " a:", "[:", "a[:", "a`:", "a{:", "a~:", "a,:", "a;:"} {
		if a, b, ok := url.Scheme(s); a != "" || b != "" || ok {
			t.Errorf("Scheme(%q) = %q, %q, %v", s, a, b, ok)
		}
	}
}

func TestAhead(t *testing.T) { // sizes, blanks, what is gone
	checkParse(t, [][2]string{
		{" \x00\x1fhttp://h/\x1f \n", "http D=h 1[]"}, {"ht\ttp:\n//h\r/a\tb", "http D=h 1[ab]"}, {"x:\ta\n b ?", "x - (a b%20) ?"}, {"\th:o\t", "h - (o)"}, {"x:a\rb", "x - (ab)"}, {"x:a\nb", "x - (ab)"}, {"x:a\tb", "x - (ab)"}, {"x:!", "x - (!)"}, {"\x0bx:!\x0b", "x - (!)"}, {"x:\x7f", "x - (%7F)"}, {"x: a", "x - ( a)"},
		{"x:\xe2\x82\n\xac", "x - (%EF%BF%BD%EF%BF%BD)"}, {"x:\xff", "x - (%EF%BF%BD)"}, {"x:\u00a0", "x - (%C2%A0)"},
	})
	if _, code := url.Parse("x:" + strings.Repeat("a", api.MaxBytes-2)); code != api.OK {
		t.Errorf("a URL of MaxBytes bytes: %d", code)
	}
	for _, s := range []string{"x:" + strings.Repeat("a", api.MaxBytes-1), strings.Repeat(" ", api.MaxBytes+1)} {
		if u, code := url.Parse(s); code != api.ErrSize || !reflect.DeepEqual(u, api.URL{}) {
			t.Errorf("one byte more: %d", code)
		}
		if u, code := url.Join(s, parse(t, "http://h/")); code != api.ErrSize || !reflect.DeepEqual(u, api.URL{}) {
			t.Errorf("one byte more: %d", code)
		}
	}
}

func TestAuthority(t *testing.T) {
	checkParse(t, [][2]string{
		{"HTTP:\\\\u@h:80/a/../b?", "http u:@D=h 1[b] ?"}, {"http:h", "http D=h 1[]"}, {"http:/h", "http D=h 1[]"}, {"http:\\/\\h\\x", "http D=h 1[x]"}, {"http:////h//x", "http D=h 2[,x]"},
		{"https://H:443", "https D=h 1[]"}, {"https://h:80", "https D=h:80 1[]"}, {"wss://h:443/", "wss D=h 1[]"}, {"ws://h:80/", "ws D=h 1[]"}, {"ftp://h:21", "ftp D=h 1[]"}, {"http://h:", "http D=h 1[]"}, {"http://h:/x", "http D=h 1[x]"},
		{"http://h:0", "http D=h:0 1[]"}, {"http://h:65535", "http D=h:65535 1[]"}, {"http://h:000000080", "http D=h 1[]"}, {"http://h:0000000000000000000081", "http D=h:81 1[]"},
		{"http://u:p@h", "http u:p@D=h 1[]"}, {"http://:p@h", "http :p@D=h 1[]"}, {"http://@h", "http D=h 1[]"}, {"http://:@h", "http D=h 1[]"}, {"http://a@b:c@d:e@h:1", "http a%40b:c%40d%3Ae@D=h:1 1[]"}, {"http://\u00e9|:%41^@h", "http %C3%A9%7C:%41%5E@D=h 1[]"},
		{"http://[::1]:81/x", "http 6=[0 0 0 0 0 0 0 1]:81 1[x]"}, {"http://[1::]", "http 6=[1 0 0 0 0 0 0 0] 1[]"}, {"http://1.2", "http 4=01000002 1[]"}, {"http://u:[::1@h", "http u:%5B%3A%3A1@D=h 1[]"},
		{"http://h?q/a", "http D=h 1[] ?q/a"}, {"http://h#f?x", "http D=h 1[] #f?x"}, {"http://h\\a\\..\\b", "http D=h 1[b]"},
		{"x://h", "x O=h 0[]"}, {"x://", "x E 0[]"}, {"x:///", "x E 1[]"}, {"x:////a", "x E 2[,a]"}, {"x://?q", "x E 0[] ?q"}, {"x://h#f", "x O=h 0[] #f"}, {"x://u:p@h:1", "x u:p@O=h:1 0[]"}, {"x://h:", "x O=h 0[]"}, {"x://H%41:80/\\/", "x O=H%41:80 2[\\,]"},
		{"x://[::1]:2/", "x 6=[0 0 0 0 0 0 0 1]:2 1[]"}, {"x://h:80", "x O=h:80 0[]"}, {"x://h:0", "x O=h:0 0[]"}, {"x://\u00e9", "x O=%C3%A9 0[]"}, {"x://h/..", "x O=h 1[]"}, {"x://h/.", "x O=h 1[]"},
	})
	for s, want := range map[string]api.Errno{
		"": api.ErrURL, "a": api.ErrURL, "/a": api.ErrURL, "#a": api.ErrURL, "?a": api.ErrURL, "//h": api.ErrURL, ":": api.ErrURL, "1:": api.ErrURL, " ": api.ErrURL,
		"http:": api.ErrURL, "http://": api.ErrURL, "http:///": api.ErrURL, "http://?q": api.ErrURL, "http://#": api.ErrURL, "http://@": api.ErrURL, "http://u@": api.ErrURL, "http://u:p@/x": api.ErrURL, "http://:80": api.ErrURL, "http://u@:80/": api.ErrURL, "x://u@": api.ErrURL, "x://@/a": api.ErrURL, "x://:80": api.ErrURL, "x://:": api.ErrURL, "x://u:p@:": api.ErrURL,
		"http://h:a": api.ErrURL, "http://h:8a": api.ErrURL, "http://h:65536": api.ErrURL, "http://h:99999999999999999999999999": api.ErrURL, "http://h:-1": api.ErrURL, "http://h:80:80": api.ErrURL, "http://h: 80": api.ErrURL, "http://h:%38": api.ErrURL, "x://h:a": api.ErrURL, "x://h:65536": api.ErrURL, "http://h:\u0661": api.ErrURL,
		"http://[::1": api.ErrURL, "http://[::1]a": api.ErrURL, "http://[::1]:a": api.ErrURL, "http://::1": api.ErrURL, "http://a b": api.ErrURL, "x://a b": api.ErrURL, "http://a%": api.ErrURL, "http://1.2.3.256": api.ErrURL, "http://a^b": api.ErrURL, "x://a^b": api.ErrURL, "http://h|": api.ErrURL, "x://[a]": api.ErrURL, "http://[:1]:2": api.ErrURL,
		"http://\u00e9": api.ErrHost, "http://xn--a/": api.ErrHost, "http://\u00e9:99999": api.ErrHost, "http://%80": api.ErrHost, "http://u@\u00e9:x": api.ErrHost, "https://\xff": api.ErrHost, "ws://a.xn--b": api.ErrHost, "file://\u00e9/": api.ErrHost, "file://xn--/": api.ErrHost, "file://a:80/": api.ErrURL, "file://u@h": api.ErrURL, "file://[::1": api.ErrURL, "file://a.1/": api.ErrURL,
	} {
		if u, code := url.Parse(s); !reflect.DeepEqual(u, api.URL{}) || code != want {
			t.Errorf("Parse(%q) = %q, %d", s, told(u), code)
		}
	}
}

func TestPaths(t *testing.T) {
	checkParse(t, [][2]string{
		{"http://h/a/./b/../c", "http D=h 2[a,c]"}, {"http://h/a/..", "http D=h 1[]"}, {"http://h/a/.", "http D=h 2[a,]"}, {"http://h/a/b/%2E%2e/.%2e", "http D=h 1[]"}, {"http://h/../../a", "http D=h 1[a]"}, {"http://h/%2e/a/%2E", "http D=h 2[a,]"}, {"http://h/...", "http D=h 1[...]"},
		{"http://h/a//../b", "http D=h 2[a,b]"}, {"http://h//..", "http D=h 1[]"}, {"http://h//", "http D=h 2[,]"}, {"http://h/a b\"<>`{}^|?", "http D=h 1[a%20b%22%3C%3E%60%7B%7D%5E|] ?"}, {"http://h/%zz%4", "http D=h 1[%zz%4]"}, {"http://h/\u00e9\xff", "http D=h 1[%C3%A9%EF%BF%BD]"}, {"http://h/c|/..", "http D=h 1[]"}, {"http://h/a:b@c", "http D=h 1[a:b@c]"},
		{"x:/a\\b/..", "x - 1[]"}, {"x:/", "x - 1[]"}, {"x:/.//y", "x - 2[,y]"}, {"x:/..", "x - 1[]"}, {"x:/a/..//b", "x - 2[,b]"}, {"x:/c|/..", "x - 1[]"}, {"x:/?q", "x - 1[] ?q"}, {"x:/a/#", "x - 2[a,] #"}, {"x:/a/../", "x - 1[]"},
	})
}

func TestOpaquePaths(t *testing.T) {
	checkParse(t, [][2]string{
		{"x:", "x - ()"}, {"x:?", "x - () ?"}, {"x:#", "x - () #"}, {"x:a/../b", "x - (a/../b)"}, {"x:a b\"<>`{}^|\\", "x - (a b\"<>`{}^|\\)"}, {"x:\u00e9%zz\x01", "x - (%C3%A9%zz)"}, {"x:\u00e9%zz\x01a", "x - (%C3%A9%zz%01a)"},
		{"x:a ?b", "x - (a%20) ?b"}, {"x:a  #b", "x - (a %20) #b"}, {"x:a \t#b", "x - (a%20) #b"}, {"x: ?", "x - (%20) ?"}, {"data:,a?b#c", "data - (,a) ?b #c"}, {"httpx:h", "httpx - (h)"}, {"x:a ", "x - (a)"}, {"x:a b?c d", "x - (a b) ?c%20d"},
	})
}

func TestQueriesAndFragments(t *testing.T) {
	checkParse(t, [][2]string{
		{"http://h/?a'b\"<>`{}?#", "http D=h 1[] ?a%27b%22%3C%3E`{}? #"}, {"x:/?a'b\"<>`{}?#", "x - 1[] ?a'b%22%3C%3E`{}? #"}, {"x:a?'", "x - (a) ?'"}, {"file:?'", "file E 1[] ?%27"},
		{"http://h/#a b\"<>`{}'#?\u00e9\x7f!", "http D=h 1[] #a%20b%22%3C%3E%60{}'#?%C3%A9%7F!"}, {"http://h/?\xff#\xff", "http D=h 1[] ?%EF%BF%BD #%EF%BF%BD"}, {"http://h?", "http D=h 1[] ?"}, {"http://h/?%zz#%zz", "http D=h 1[] ?%zz #%zz"},
	})
	if u := parse(t, "http://h/?#"); !u.HasQuery || !u.HasFragment {
		t.Errorf("an empty query, an empty fragment: %v", u)
	}
	if u := parse(t, "http://h/"); u.HasQuery || u.HasFragment {
		t.Errorf("no query, no fragment: %v", u)
	}
}

func TestFiles(t *testing.T) {
	checkParse(t, [][2]string{
		{"file:", "file E 1[]"}, {"file:a", "file E 1[a]"}, {"file:a/b", "file E 2[a,b]"}, {"file:a//b", "file E 3[a,,b]"}, {"file:/a//b", "file E 3[a,,b]"}, {"file:/a", "file E 1[a]"}, {"file:///a", "file E 1[a]"}, {"file://", "file E 1[]"}, {"file://h", "file D=h 1[]"}, {"file://H/a", "file D=h 1[a]"}, {"file://LOCALhost/a", "file E 1[a]"}, {"file://%6cocalhost", "file E 1[]"}, {"file:////a", "file E 2[,a]"}, {"file:\\\\h\\a", "file D=h 1[a]"}, {"file:\\a", "file E 1[a]"},
		{"file:c|/x", "file E 2[c:,x]"}, {"file:///C|", "file E 1[C:]"}, {"file://c:/x", "file E 2[c:,x]"}, {"file://C|", "file E 1[C:]"}, {"file://c|?q", "file E 1[c:] ?q"}, {"file:c:", "file E 1[c:]"}, {"file:/c|/../..", "file E 2[c:,]"}, {"file:///c:/../x", "file E 2[c:,x]"}, {"file:///a/../c|/x", "file E 2[c:,x]"}, {"file:///a/c|", "file E 2[a,c|]"}, {"file:///c|x", "file E 1[c|x]"}, {"file://h/c|/x", "file D=h 2[c:,x]"},
		{"file:?q", "file E 1[] ?q"}, {"file:#f", "file E 1[] #f"}, {"file://1.2/", "file 4=01000002 1[]"}, {"file://[::1]/", "file 6=[0 0 0 0 0 0 0 1] 1[]"}, {"file:///..", "file E 1[]"}, {"file://?q", "file E 1[] ?q"}, {"file:///c:/..", "file E 2[c:,]"}, {"file:////c|", "file E 2[,c|]"},
	})
	checkJoin(t, "file:///C:/x/y?q#f", [][2]string{
		{"..\\x", "file E 2[C:,x]"}, {"", "file E 3[C:,x,y] ?q"}, {"#g", "file E 3[C:,x,y] ?q #g"}, {"?r", "file E 3[C:,x,y] ?r"}, {"?", "file E 3[C:,x,y] ?"}, {"z", "file E 3[C:,x,z]"}, {"../..", "file E 2[C:,]"}, {"../../../z", "file E 2[C:,z]"}, {"/z", "file E 2[C:,z]"}, {"\\z", "file E 2[C:,z]"}, {"/", "file E 2[C:,]"}, {"/d:/z", "file E 2[d:,z]"}, {"/d|", "file E 1[d:]"}, {"/d:z", "file E 2[C:,d:z]"},
		{"d|/z", "file E 2[d:,z]"}, {"d|", "file E 1[d:]"}, {"d|?r", "file E 1[d:] ?r"}, {"d|z", "file E 3[C:,x,d|z]"}, {"//h/z", "file D=h 1[z]"}, {"//", "file E 1[]"}, {"///z", "file E 1[z]"}, {"//d:/z", "file E 2[d:,z]"}, {"file:z", "file E 3[C:,x,z]"}, {"file:/z", "file E 2[C:,z]"}, {"file:", "file E 3[C:,x,y] ?q"}, {"FILE:#g", "file E 3[C:,x,y] ?q #g"}, {"http:z", "http D=z 1[]"}, {"x:z", "x - (z)"}, {"d:/z", "d - 1[z]"},
	})
	checkJoin(t, "file://h/a/b", [][2]string{{"/c", "file D=h 1[c]"}, {"c", "file D=h 2[a,c]"}, {"..", "file D=h 1[]"}, {"/c|/d", "file D=h 2[c:,d]"}, {"c|", "file D=h 1[c:]"}, {"//", "file E 1[]"}, {"///c", "file E 1[c]"}, {"//localhost/c", "file E 1[c]"}, {".", "file D=h 2[a,]"}})
	checkJoin(t, "http://h/a", [][2]string{{"file:b", "file E 1[b]"}, {"file:", "file E 1[]"}, {"file:/b", "file E 1[b]"}, {"file://g/b", "file D=g 1[b]"}})
}

func TestJoin(t *testing.T) {
	checkJoin(t, "http://u:p@h:81/a/b?q#f", [][2]string{
		{"", "http u:p@D=h:81 2[a,b] ?q"}, {"#g", "http u:p@D=h:81 2[a,b] ?q #g"}, {"?r", "http u:p@D=h:81 2[a,b] ?r"}, {"?r#g", "http u:p@D=h:81 2[a,b] ?r #g"}, {"c", "http u:p@D=h:81 2[a,c]"}, {"c?r#g", "http u:p@D=h:81 2[a,c] ?r #g"}, {".", "http u:p@D=h:81 2[a,]"}, {"..", "http u:p@D=h:81 1[]"}, {"../../..", "http u:p@D=h:81 1[]"}, {"./c/", "http u:p@D=h:81 3[a,c,]"},
		{"/c", "http u:p@D=h:81 1[c]"}, {"\\c", "http u:p@D=h:81 1[c]"}, {"/", "http u:p@D=h:81 1[]"}, {"//g/c", "http D=g 1[c]"}, {"\\\\g", "http D=g 1[]"}, {"/\\/\\g", "http D=g 1[]"}, {"///g", "http D=g 1[]"}, {"http:c", "http u:p@D=h:81 2[a,c]"}, {"http:/c", "http u:p@D=h:81 1[c]"}, {"HTTP:", "http u:p@D=h:81 2[a,b] ?q"}, {"http:\\\\g", "http D=g 1[]"}, {"http://g", "http D=g 1[]"}, {"http:?r", "http u:p@D=h:81 2[a,b] ?r"},
		{"https:c", "https D=c 1[]"}, {"https:/c", "https D=c 1[]"}, {"x:c", "x - (c)"}, {"x:/c", "x - 1[c]"}, {"x:", "x - ()"}, {"c:/d", "c - 1[d]"}, {" \t", "http u:p@D=h:81 2[a,b] ?q"}, {":c", "http u:p@D=h:81 2[a,:c]"}, {"!c", "http u:p@D=h:81 2[a,!c]"}, {"c//d", "http u:p@D=h:81 4[a,c,,d]"}, {"/c//d", "http u:p@D=h:81 3[c,,d]"}, {"a/b:c", "http u:p@D=h:81 3[a,a,b:c]"},
	})
	checkJoin(t, "x://u:p@h:1/a/b?q#f", [][2]string{
		{"", "x u:p@O=h:1 2[a,b] ?q"}, {"c", "x u:p@O=h:1 2[a,c]"}, {"\\c", "x u:p@O=h:1 2[a,\\c]"}, {"/c", "x u:p@O=h:1 1[c]"}, {"//g/c", "x O=g 1[c]"}, {"//", "x E 0[]"}, {"///c", "x E 1[c]"}, {"////c", "x E 2[,c]"}, {"x:c", "x - (c)"}, {"x:", "x - ()"}, {"http:c", "http D=c 1[]"}, {"#", "x u:p@O=h:1 2[a,b] ?q #"},
	})
	checkJoin(t, "x:/a/b", [][2]string{{"c", "x - 2[a,c]"}, {"/c", "x - 1[c]"}, {"..//c", "x - 2[,c]"}, {"//h", "x O=h 0[]"}, {"?r", "x - 2[a,b] ?r"}, {"/.//c", "x - 2[,c]"}})
	checkJoin(t, "x://h", [][2]string{{"c", "x O=h 1[c]"}, {"", "x O=h 0[]"}, {"?q", "x O=h 0[] ?q"}, {"..", "x O=h 1[]"}, {"/", "x O=h 1[]"}, {"./c", "x O=h 1[c]"}})
	checkJoin(t, "http://h", [][2]string{{"c", "http D=h 1[c]"}, {"", "http D=h 1[]"}, {"..", "http D=h 1[]"}})
	checkJoin(t, "x:a b?q#f", [][2]string{{"#", "x - (a b) ?q #"}, {" #g h", "x - (a b) ?q #g%20h"}, {"y:c", "y - (c)"}, {"x:#", "x - () #"}, {"http:c", "http D=c 1[]"}, {"file:c", "file E 1[c]"}})
	for base, all := range map[string][]string{
		"x:a?q": {"", "c", "/c", "//h", "?q", "./c", " ", "c#", "/#", "1:"}, "http://h/a": {"//", "http://", "///", "//:80", "//u@", "\\\\", "https:", "//h:x", "//[", "http:\\\\", "ws:?q"}, "x://h": {"//:1", "//u@", "//h:x", "//a b"}, "file:///a": {"//h:1", "//a b", "//%"},
	} {
		for _, s := range all {
			if u, code := url.Join(s, parse(t, base)); !reflect.DeepEqual(u, api.URL{}) || code != api.ErrURL {
				t.Errorf("Join(%q, %q) = %q, %d", s, base, told(u), code)
			}
		}
	}
	if u, code := url.Join("//\u00e9", parse(t, "http://h/")); !reflect.DeepEqual(u, api.URL{}) || code != api.ErrHost {
		t.Errorf("Join(//\u00e9) = %q, %d", told(u), code)
	}
}

func TestAnyBase(t *testing.T) { // R1
	for _, base := range []api.URL{{}, {Opaque: true}, {Scheme: "file"}, {Scheme: "http", Opaque: true}, {Scheme: "x", Path: []string{"c:"}, Port: 99}, {Scheme: "file", Path: []string{"c:"}, Host: api.Host{Kind: 77}}} {
		for _, s := range []string{"", "a", "/a", "..", "#f", "?q", "//h", "file:", "file:..", "c|", "http:a"} {
			url.Join(s, base)
		}
	}
}

func TestMegabyte(t *testing.T) {
	for _, s := range []string{
		"http://h/" + strings.Repeat("a/", 250000) + strings.Repeat("../", 150000), "http:" + strings.Repeat("/", 1000000) + "h", "http://" + strings.Repeat("u@", 500000) + "h", "http://" + strings.Repeat("a.", 500000), "x:" + strings.Repeat("\u00e9", 500000), "http://h/" + strings.Repeat("\\", 1000000), "a" + strings.Repeat("+", 1000000) + ":", strings.Repeat("\t ", 500000) + "x:",
	} {
		if _, code := url.Parse(s); code != api.OK {
			t.Errorf("Parse(%.20q..): %d", s, code)
		}
	}
	base := parse(t, "http://h/"+strings.Repeat("a/", 400000))
	if u, code := url.Join(strings.Repeat("../", 300000), base); code != api.OK || len(u.Path) != 100001 {
		t.Errorf("Join: %d, %d", len(u.Path), code)
	}
	if len(base.Path) != 400001 || slices.Contains(base.Path[:400000], "") {
		t.Error("Join changed its base")
	}
}
