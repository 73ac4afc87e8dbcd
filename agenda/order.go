package agenda

import (
	"cmp"
	"iter"

	"usance/api"
)

// key is what an order can be kept of: below 0, if it stands ahead of the other one.
type key[K any] interface {
	compare(other K) int
}

// byDay is an entry as the days have it.
type byDay api.Due

func (x byDay) compare(y byDay) int {
	return cmp.Or(cmp.Compare(x.Day, y.Day), cmp.Compare(x.Id, y.Id))
}

// byContract is an entry as the contracts have it.
type byContract api.Due

func (x byContract) compare(y byContract) int {
	return cmp.Or(cmp.Compare(x.Id, y.Id), cmp.Compare(x.Day, y.Day))
}

// order keeps keys in order, each once.
type order[K key[K]] struct {
	root *node[K]
}

func (o *order[K]) put(k K) { o.root = o.root.with(k) }

func (o *order[K]) drop(k K) { o.root = o.root.without(k) }

// from goes through the keys from one on. The root is taken when that begins, and no node is ever changed: so a body that changes the order can't lead it astray.
func (o *order[K]) from(first K) iter.Seq[K] {
	return func(yield func(K) bool) {
		o.root.walk(first, yield)
	}
}
