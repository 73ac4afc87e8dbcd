package denote

import (
	"usance/api"
	"usance/causal"
	"usance/num"
)

func isDay(n int) bool { return 0 <= n && n <= api.MaxDay }

func isNumber(n int64) bool { return num.Clamp(n) == n }

// isName asks causal: a name is what a feed's term may have for S.
func isName(s string) bool {
	_, is := causal.Type(api.Core{Op: api.OFeed, S: s})
	return is
}

// isChoice: is it a choice, or none?
func isChoice(pick api.Choice) bool {
	if pick == (api.Choice{}) {
		return true
	}
	return isName(pick.Label) && (pick.Which == 1 || pick.Which == 2)
}

func areFeeds(feeds []api.Feed) bool {
	if len(feeds) > api.MaxFeeds {
		return false
	}
	last := ""
	for _, f := range feeds {
		if f.Name <= last || !isName(f.Name) || !areStamps(f.Stamps) {
			return false
		}
		last = f.Name
	}
	return true
}

func areStamps(stamps []api.Stamp) bool {
	if len(stamps) > api.MaxStamps {
		return false
	}
	last := -1
	for _, s := range stamps {
		if s.Day <= last || !isDay(s.Day) || !isNumber(s.N) {
			return false
		}
		last = s.Day
	}
	return true
}

// areLives: may these be what waits of a contract with such terms?
func areLives(l []api.Live, spots []spot) bool {
	last := -1
	for _, live := range l {
		if live.At <= last || live.At >= len(spots) || !mayWait(spots[live.At]) || !isNumber(live.Factor) {
			return false
		}
		last = live.At
	}
	return true
}
