package file_test

import (
	"reflect"
	"strings"
	"testing"

	"gossamer/api"
	"gossamer/file"
	"gossamer/url"
	"gossamer/ushow"
)

func TestClean(t *testing.T) { // P14.1
	for p, want := range map[string]bool{
		"/": true, "/a": true, "/a/b.c": true, "/...": true, "/.a": true, "/a.": true, "/ ": true, "/\\": true, "/\xff\x00": true, "/..a/b..": true, "/%2e": true, "/a/.../b": true,
		"": false, "a": false, "a/b": false, "//": false, "/a/": false, "//a": false, "/a//b": false, "/.": false, "/..": false, "/a/.": false, "/a/../b": false, "/./a": false, ".": false, "./a": false, " /a": false, "/a/..": false,
	} {
		if got := file.Clean(p); got != want {
			t.Errorf("Clean(%q) = %v", p, got)
		}
	}
}

func TestPath(t *testing.T) { // P14.2
	for s, want := range map[string]string{
		"file:///": "/", "file:///a/b": "/a/b", "file:///a/": "/a/", "file:///a//b": "/a//b", "file:///a%20b%C3%a9": "/a b\u00e9", "file:///%ff%00%zz%": "/\xff\x00%zz%", "file:///c:/x": "/c:/x", "file:///a?q#f": "/a", "file:///a%3F%23": "/a?#", "file:///%252f": "/%2f", "file:///%2": "/%2", "file:///a%2e": "/a.", "file:////a": "//a", "file:///%5b%5d%2g": "/[]%2g", "file:///a%5": "/a%5",
	} {
		u, _ := url.Parse(s)
		if got, code := file.Path(u); got != want || code != api.OK {
			t.Errorf("Path(%s) = %q, %d", s, got, code)
		}
	}
	for s, want := range map[string]api.Errno{
		"http://h/a": api.ErrURL, "x:/a": api.ErrURL, "x:a": api.ErrURL, "file://h/a": api.ErrURL, "file://1.2.3.4/": api.ErrURL, "x:///a": api.ErrURL, "file://h/%2f": api.ErrURL,
		"file:///a%2fb": api.ErrSpec, "file:///a%2F": api.ErrSpec, "file:///%5c": api.ErrSpec, "file:///a/b%5C/c": api.ErrSpec, "file:///%%2f": api.ErrSpec, "file:///%zz%2f": api.ErrSpec, "file:///a/%2%2f": api.ErrSpec,
	} {
		u, bad := url.Parse(s)
		if got, code := file.Path(u); got != "" || code != want || bad != api.OK {
			t.Errorf("Path(%s) = %q, %d", s, got, code)
		}
	}
}

func TestURLAndFolder(t *testing.T) { // P14.2
	for p, want := range map[string][2]string{
		"/": {"file:///", "file:///"}, "/a": {"file:///a", "file:///a/"}, "/a b/c%": {"file:///a%20b/c%25", "file:///a%20b/c%25/"}, "/\xff\u00e9": {"file:///%FF%C3%A9", "file:///%FF%C3%A9/"}, "/a\\b|c": {"file:///a%5Cb%7Cc", "file:///a%5Cb%7Cc/"}, "/c:": {"file:///c:", "file:///c:/"}, "/c|": {"file:///c%7C", "file:///c%7C/"},
		"/\x00\t\n\x1f\x7f": {"file:///%00%09%0A%1F%7F", "file:///%00%09%0A%1F%7F/"}, "/\"#<>?^`{}": {"file:///%22%23%3C%3E%3F%5E%60%7B%7D", "file:///%22%23%3C%3E%3F%5E%60%7B%7D/"}, "/!$&'()*+,;=:@[]~-._": {"file:///!$&'()*+,;=:@[]~-._", "file:///!$&'()*+,;=:@[]~-._/"}, "/%2e": {"file:///%252e", "file:///%252e/"},
	} {
		u, code := file.URL(p)
		f, also := file.Folder(p)
		if code != api.OK || also != api.OK || ushow.Show(u) != want[0] || ushow.Show(f) != want[1] {
			t.Errorf("%q: %q, %d, %q, %d", p, ushow.Show(u), code, ushow.Show(f), also)
		}
	}
	for _, p := range []string{"", "a", "/a/", "/..", "//", "/a/./b"} {
		u, code := file.URL(p)
		f, also := file.Folder(p)
		if code != api.ErrArg || also != api.ErrArg || !reflect.DeepEqual(u, api.URL{}) || !reflect.DeepEqual(f, api.URL{}) {
			t.Errorf("%q: %v, %d, %v, %d", p, u, code, f, also)
		}
	}
}

func TestThereAndBack(t *testing.T) { // P14.3
	paths := []string{"/", "/c:", "/c:/x", "/c|/x", "/a\\b", "/%2e/%2E%2e", "/ /\t", "/\u00e9/\xff\xfe", "/" + strings.Repeat("\xff", api.MaxPath-1)}
	for c := range 256 {
		if c != '/' && c != '.' {
			paths = append(paths, "/"+string([]byte{byte(c)}), "/a/x"+string([]byte{byte(c)})+"/b")
		}
	}
	for _, p := range paths {
		for _, tell := range []func(string) (api.URL, api.Errno){file.URL, file.Folder} {
			u, code := tell(p)
			if code != api.OK || !ushow.May(u) {
				t.Errorf("%q: %q, %d", p, ushow.Show(u), code)
			}
		}
		u, _ := file.URL(p)
		back, code := file.Path(u)
		if strings.Contains(p, "\\") {
			if code != api.ErrSpec {
				t.Errorf("%q: %q, %d", p, back, code)
			}
		} else if back != p || code != api.OK {
			t.Errorf("%q: %q, %d", p, back, code)
		}
	}
}

func TestMegabyte(t *testing.T) {
	p := strings.Repeat("/a", 1<<19)
	u, code := file.URL(p)
	if code != api.OK || len(u.Path) != 1<<19 {
		t.Errorf("%d parts, %d", len(u.Path), code)
	}
	if back, code := file.Path(u); back != p || code != api.OK {
		t.Errorf("%d bytes, %d", len(back), code)
	}
}
