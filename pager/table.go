package pager

import (
	"maps"
	"slices"
)

// table is what some of the pages have, by their numbers. Its zero value is that of none.
type table[V any] struct {
	of map[int]V
}

func (t *table[V]) put(page int, v V) {
	if t.of == nil {
		t.of = make(map[int]V)
	}
	t.of[page] = v
}

func (t *table[V]) get(page int) (V, bool) {
	v, ok := t.of[page]
	return v, ok
}

func (t *table[V]) drop(page int) {
	delete(t.of, page)
}

// pages is which pages have something, by rising numbers: the order of the map would be seen in that of the disk's writes.
func (t *table[V]) pages() []int {
	return slices.Sorted(maps.Keys(t.of))
}
