// Package shelf keeps things by their keys: the maps that are read have each
// key once, the greater ones first.
package shelf

import (
	"slices"

	"gossamer/order"
)

// Shelf holds things. Its zero value holds none.
type Shelf[T any] struct {
	where map[string]int
	items []item[T]
}

type item[T any] struct {
	key   string
	thing T
}

// Put lays a thing to its key; one that was there is gone.
func (s *Shelf[T]) Put(key string, thing T) {
	if i, ok := s.where[key]; ok {
		s.items[i].thing = thing
		return
	}
	if s.where == nil {
		s.where = make(map[string]int)
	}
	s.where[key] = len(s.items)
	s.items = append(s.items, item[T]{key, thing})
}

// Falling tells the things, those of the greater keys first.
func (s *Shelf[T]) Falling() []T {
	items := slices.Clone(s.items)
	slices.SortStableFunc(items, func(a, b item[T]) int { return order.Compare(b.key, a.key) })
	var things []T
	for _, i := range items {
		things = append(things, i.thing)
	}
	return things
}
