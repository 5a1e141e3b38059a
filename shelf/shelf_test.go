package shelf_test

import (
	"slices"
	"testing"

	"gossamer/shelf"
)

func TestShelf(t *testing.T) {
	var s shelf.Shelf[int]
	if got := s.Falling(); len(got) != 0 {
		t.Errorf("Falling of nothing = %v", got)
	}
	for i, key := range []string{"a", "\U0001f600", "ab", "\uff21", "a", ""} {
		s.Put(key, i)
	}
	if got := s.Falling(); !slices.Equal(got, []int{3, 1, 2, 4, 5}) {
		t.Errorf("Falling = %v", got)
	}
}
