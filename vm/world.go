package vm

import (
	"cmp"
	"slices"
	"strings"

	"usance/api"
)

// world is what a bytecode is run in: a day, and what feeds have told.
type world struct {
	day   int
	feeds []api.Feed
}

func (w world) isRight() bool { return isDay(w.day) && areFeeds(w.feeds) }

// told is a feed's value on a day. The day may lie ahead of the first one: it is not clamped, since nothing was told so early.
func (w world) told(name string, day int) (int64, bool) {
	which, is := slices.BinarySearchFunc(w.feeds, name, func(f api.Feed, name string) int { return strings.Compare(f.Name, name) })
	if !is {
		return 0, false
	}
	stamps := w.feeds[which].Stamps
	later, _ := slices.BinarySearchFunc(stamps, day+1, func(s api.Stamp, day int) int { return cmp.Compare(s.Day, day) })
	if later == 0 {
		return 0, false
	}
	return stamps[later-1].N, true
}
