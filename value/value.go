// Package value looks into JSON's values for the layers that share them.
package value

import (
	"slices"

	"gossamer/api"
)

// Deepest is how far values that are handed in may be nested: those that hold
// themselves are nested without an end, and no call may follow them there.
const Deepest = 1 << 16

// Find tells the value of a key of an object. It shares v's memory.
func Find(v api.Value, key string) (api.Value, bool) {
	if v.Kind != api.Object {
		return api.Value{}, false
	}
	if i := slices.Index(v.K, key); i >= 0 && i < len(v.L) {
		return v.L[i], true
	}
	return api.Value{}, false
}

// Within tells whether no more than most lists lie within one another in v.
func Within(v api.Value, most int) bool {
	if len(v.L) == 0 {
		return true
	}
	if most == 0 {
		return false
	}
	for i := range v.L {
		if !Within(v.L[i], most-1) {
			return false
		}
	}
	return true
}

// Copy tells v with memory of its own; v must be Within some bound.
func Copy(v api.Value) api.Value {
	v.K = slices.Clone(v.K)
	v.L = slices.Clone(v.L)
	for i := range v.L {
		v.L[i] = Copy(v.L[i])
	}
	return v
}
