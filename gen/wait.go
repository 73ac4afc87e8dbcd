package gen

import (
	"usance/api"
	"usance/causal"
)

// mayWait: is it a term that may wait, of a right contract?
func mayWait(c api.Core) bool {
	switch c.Op {
	case api.CAt, api.CWhen, api.CPick:
		return true
	case api.CScale, api.CIf:
		return len(causal.Feeds(c.Kids[0])) > 0
	}
	return false
}

func howManyWait(c api.Core) int {
	count := 0
	if mayWait(c) {
		count = 1
	}
	for _, kid := range c.Kids {
		count += howManyWait(kid)
	}
	return count
}

// waitOf is a term's wait, without the places of its code.
func waitOf(c api.Core) api.Wait {
	switch c.Op {
	case api.CAt:
		return api.Wait{Day: int(c.N)}
	case api.CWhen:
		return api.Wait{Day: dayBehind(c.N)}
	case api.CPick:
		return api.Wait{Day: dayBehind(c.N), Label: c.S}
	}
	return api.Wait{}
}

// dayBehind is the day behind one, 0, if there is none.
func dayBehind(day int64) int {
	if day == api.MaxDay {
		return 0
	}
	return int(day) + 1
}
