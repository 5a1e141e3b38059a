package paths_test

import (
	"testing"

	"gossamer/paths"
)

func TestPart(t *testing.T) {
	for p, want := range map[string][2]string{"/a": {"/", "a"}, "/a/b": {"/a", "b"}, "/": {"/", ""}, "/a/b/c": {"/a/b", "c"}, "": {"", ""}} {
		if folder, name := paths.Part(p); [2]string{folder, name} != want {
			t.Errorf("Part(%q) = %q, %q", p, folder, name)
		}
	}
}

func TestBelow(t *testing.T) {
	if got := paths.Below("/", "a") + paths.Below("/a", "b"); got != "/a/a/b" {
		t.Errorf("Below: %q", got)
	}
}
