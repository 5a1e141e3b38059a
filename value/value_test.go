package value_test

import (
	"testing"

	"gossamer/api"
	"gossamer/value"
)

func TestFind(t *testing.T) {
	v := api.Value{Kind: api.Object, K: []string{"a", "b"}, L: []api.Value{{Kind: api.Bool, B: true}}}
	if got, ok := value.Find(v, "a"); !ok || !got.B {
		t.Errorf("Find = %v, %v", got, ok)
	}
	for _, key := range []string{"b", "c"} {
		if got, ok := value.Find(v, key); ok {
			t.Errorf("Find(%s) = %v", key, got)
		}
	}
	v.Kind = api.Array
	if _, ok := value.Find(v, "a"); ok {
		t.Error("Find in an array")
	}
}

func TestWithin(t *testing.T) {
	v := api.Value{Kind: api.Array}
	if !value.Within(v, 0) {
		t.Error("an empty list is within nothing")
	}
	for range 3 {
		v = api.Value{Kind: api.Array, L: []api.Value{{}, v}}
	}
	if value.Within(v, 0) || value.Within(v, 1) || value.Within(v, 2) || !value.Within(v, 3) || !value.Within(v, value.Deepest) {
		t.Error("three lists within one another")
	}
	ring := api.Value{Kind: api.Array, L: make([]api.Value, 2)}
	ring.L[0], ring.L[1] = ring, ring
	if value.Within(ring, value.Deepest) {
		t.Error("a ring has no end")
	}
}

func TestCopy(t *testing.T) {
	v := api.Value{Kind: api.Object, K: []string{"a"}, L: []api.Value{{Kind: api.Array, L: []api.Value{{Kind: api.String, S: "x"}}}}}
	c := value.Copy(v)
	v.K[0], v.L[0].L[0].S = "b", "y"
	if c.K[0] != "a" || c.L[0].L[0].S != "x" {
		t.Errorf("Copy shares memory: %v", c)
	}
}
