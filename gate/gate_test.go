package gate_test

import (
	"strings"
	"testing"

	"gossamer/api"
	"gossamer/gate"
	"gossamer/url"
	"gossamer/ushow"
)

func TestRead(t *testing.T) {
	folder, _ := url.Parse("file:///p/q/")
	long := strings.Repeat("%C3%A9", api.MaxBytes/6)
	for _, s := range []string{"file:///p/q/a?b#c", "file:///p/q/a", "file:///p/q/" + long, "file:///p/q/a/" + long + "?" + long, "file:///p/q/a?#" + long + "?"} {
		if got := gate.Read(folder, s); ushow.Show(got) != s || got.Scheme != "file" || got.Host != folder.Host || got.Port != -1 || len(got.Path) < 3 || got.Path[1] != "q" {
			t.Errorf("%.30s is read as %.30s", s, ushow.Show(got))
		}
	}
	got := gate.Read(folder, "file:///p/q/a/"+long+"?b?c#d#e")
	if got.Path[2] != "a" || got.Path[3] != long || got.Query != "b?c" || got.Fragment != "d#e" || !got.HasQuery || !got.HasFragment {
		t.Errorf("%d parts, ?%s, #%s", len(got.Path), got.Query, got.Fragment)
	}
	gate.Read(api.URL{}, "")
}

func TestExports(t *testing.T) {
	folder, _ := url.Parse("file:///p/")
	says := api.Package{HasExports: true, Exports: api.Value{Kind: api.String, S: "./a"}}
	if got, code := gate.Exports(folder, ".", says, nil); ushow.Show(got) != "file:///p/a" || code != api.OK {
		t.Errorf("%s, %d", ushow.Show(got), code)
	}
	if _, code := gate.Exports(folder, "./b", says, nil); code != api.ErrExports {
		t.Errorf("%d", code)
	}
}
