package lay

import (
	"slices"

	"gossamer/api"
	"gossamer/order"
)

func key(e api.Entry) string    { return e.Key }
func prefix(s api.Scope) string { return s.Prefix }

// falling tells l with the greater names first: itself, if it is so.
func falling[T any](l []T, name func(T) string) []T {
	compare := func(a, b T) int { return order.Compare(name(b), name(a)) }
	if slices.IsSortedFunc(l, compare) {
		return l
	}
	l = slices.Clone(l)
	slices.SortStableFunc(l, compare)
	return l
}

// find tells where in a falling list a name stands, or would stand, and whether
// it is there.
func find[T any](l []T, name func(T) string, s string) (int, bool) {
	return slices.BinarySearchFunc(l, s, func(one T, s string) int { return order.Compare(s, name(one)) })
}

// together tells two falling lists as one: the first one itself, if the second
// one is empty. The second one is often short: it is the first one that must not
// be gone through name by name.
func together[T any](old []T, more []T, name func(T) string) []T {
	if len(more) == 0 {
		return old
	}
	all := make([]T, 0, len(old)+len(more))
	for _, one := range more {
		i, _ := find(old, name, name(one))
		all = append(append(all, old[:i]...), one)
		old = old[i:]
	}
	return append(all, old...)
}
