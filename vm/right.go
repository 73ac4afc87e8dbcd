package vm

import (
	"usance/api"
	"usance/gen"
	"usance/num"
)

func isDay(n int) bool { return 0 <= n && n <= api.MaxDay }

func isNumber(n int64) bool { return num.Clamp(n) == n }

// isName asks gen: a name is what a wait may have for its label, which may also be empty.
func isName(s string) bool {
	return s != "" && gen.Right(api.Code{Waits: []api.Wait{{Label: s}}, Ins: []api.Instr{{Op: api.IEnd}}})
}

// isChoice: is it a choice, or none?
func isChoice(pick api.Choice) bool {
	if pick == (api.Choice{}) {
		return true
	}
	return isName(pick.Label) && (pick.Which == 1 || pick.Which == 2)
}

func areFeeds(feeds []api.Feed) bool {
	if len(feeds) > api.MaxFeeds {
		return false
	}
	last := ""
	for _, f := range feeds {
		if f.Name <= last || !isName(f.Name) || !areStamps(f.Stamps) {
			return false
		}
		last = f.Name
	}
	return true
}

func areStamps(stamps []api.Stamp) bool {
	if len(stamps) > api.MaxStamps {
		return false
	}
	last := -1
	for _, s := range stamps {
		if s.Day <= last || !isDay(s.Day) || !isNumber(s.N) {
			return false
		}
		last = s.Day
	}
	return true
}

// areHolds: may these be what has begun of a bytecode with so many waits?
func areHolds(l []api.Hold, waits int) bool {
	if len(l) > api.MaxWaits {
		return false
	}
	for _, h := range l {
		if h.Wait < 0 || h.Wait >= waits || !isNumber(h.Factor) {
			return false
		}
	}
	return true
}
