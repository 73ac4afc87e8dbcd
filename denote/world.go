package denote

import (
	"cmp"
	"slices"
	"strings"

	"usance/api"
	"usance/date"
)

// world is what observables are asked of: a day, and what feeds have told. What is asked of it are right core terms, which have all kids that their Ops want.
type world struct {
	day   int
	feeds []api.Feed
}

func (w world) isRight() bool { return isDay(w.day) && areFeeds(w.feeds) }

// isPast: is the day past another one?
func (w world) isPast(n int64) bool { return int64(w.day) > n }

// isAhead: is the day ahead of another one?
func (w world) isAhead(n int64) bool { return int64(w.day) < n }

// value is what an observable is, if it is known.
func (w world) value(c api.Core) (int64, bool) {
	switch c.Op {
	case api.ONum, api.OBool, api.ODate:
		return c.N, true
	case api.OFeed:
		return w.told(c.S, w.day-int(c.N))
	case api.ONow:
		return int64(date.Plus(w.day, -c.N)), true
	case api.OAnd, api.OOr, api.OIf:
		return w.chosen(c)
	}
	return w.reckoned(c)
}

// told is a feed's value on a day. The day may lie ahead of the first one: it is not clamped, since nothing was told so early.
func (w world) told(name string, day int) (int64, bool) {
	which, is := slices.BinarySearchFunc(w.feeds, name, func(f api.Feed, name string) int { return strings.Compare(f.Name, name) })
	if !is {
		return 0, false
	}
	stamps := w.feeds[which].Stamps
	later, _ := slices.BinarySearchFunc(stamps, day+1, func(s api.Stamp, day int) int { return cmp.Compare(s.Day, day) })
	if later == 0 {
		return 0, false
	}
	return stamps[later-1].N, true
}

// chosen is what a term is whose first kid says which other one is asked: the rest may be not known.
func (w world) chosen(c api.Core) (int64, bool) {
	first, known := w.value(c.Kids[0])
	if !known {
		return 0, false
	}
	isTrue := first == 1
	switch {
	case c.Op == api.OIf && !isTrue:
		return w.value(c.Kids[2])
	case c.Op == api.OAnd && !isTrue, c.Op == api.OOr && isTrue:
		return first, true
	}
	return w.value(c.Kids[1])
}

// reckoned is what a term is that asks all its kids, of which it has one or two.
func (w world) reckoned(c api.Core) (int64, bool) {
	var values [2]int64
	for i, kid := range c.Kids {
		n, known := w.value(kid)
		if !known {
			return 0, false
		}
		values[i] = n
	}
	return reckon(c.Op, values[0], values[1]), true
}
