package denote

import (
	"usance/api"
	"usance/num"
)

// deal is a contract in a world, and what comes of acquiring terms of it.
type deal struct {
	world
	spots     []spot // by their places
	lives     []api.Live
	transfers []api.Transfer
}

// spot is a term of a core, with the places of its kids.
type spot struct {
	api.Core
	kids []int
}

// spotsOf are a right core's terms, by their places.
func spotsOf(c api.Core) []spot { return lay(nil, c) }

// lay puts a core's terms behind others, a term ahead of its kids.
func lay(spots []spot, c api.Core) []spot {
	at := len(spots)
	spots = append(spots, spot{Core: c})
	for _, kid := range c.Kids {
		spots[at].kids = append(spots[at].kids, len(spots))
		spots = lay(spots, kid)
	}
	return spots
}

// acquire does what a term does with a factor: it pays, hands on to its kids, or waits.
func (d *deal) acquire(at int, factor int64) {
	s := d.spots[at]
	switch s.Op {
	case api.COne:
		d.pay(s.S, factor)
	case api.CGive:
		d.acquire(s.kids[0], num.Neg(factor))
	case api.CBoth:
		d.acquire(s.kids[0], factor)
		d.acquire(s.kids[1], factor)
	}
	if mayWait(s) && !d.goesOn(s, factor) {
		d.lives = append(d.lives, api.Live{At: at, Factor: factor})
	}
}

func (d *deal) pay(currency string, amount int64) {
	if amount != 0 {
		d.transfers = append(d.transfers, api.Transfer{Day: d.day, Cur: currency, Amount: amount})
	}
}

// mayWait: is it a term that hangs on a day, on what is told, or on its holder?
func mayWait(s spot) bool {
	switch s.Op {
	case api.CScale, api.CIf, api.CAt, api.CWhen, api.CPick:
		return true
	}
	return false
}

// goesOn does what a term that may wait does; false: it waits.
func (d *deal) goesOn(s spot, factor int64) bool {
	switch s.Op {
	case api.CScale:
		return d.scale(s, factor)
	case api.CIf:
		return d.branch(s, factor)
	case api.CAt:
		return d.reach(s, factor)
	case api.CWhen:
		return d.watch(s, factor)
	}
	return d.lapse(s, factor)
}

func (d *deal) scale(s spot, factor int64) bool {
	n, known := d.value(s.Kids[0])
	if known {
		d.acquire(s.kids[1], num.Mul(factor, n))
	}
	return known
}

func (d *deal) branch(s spot, factor int64) bool {
	b, known := d.value(s.Kids[0])
	switch {
	case known && b == 1:
		d.acquire(s.kids[1], factor)
	case known:
		d.acquire(s.kids[2], factor)
	}
	return known
}

// reach goes on with a CAt whose day has come.
func (d *deal) reach(s spot, factor int64) bool {
	if d.isAhead(s.N) {
		return false
	}
	d.acquire(s.kids[0], factor)
	return true
}

// watch goes on with a CWhen, to nothing once its day is past.
func (d *deal) watch(s spot, factor int64) bool {
	if d.isPast(s.N) {
		return true
	}
	b, known := d.value(s.Kids[0])
	if !known || b == 0 {
		return false
	}
	d.acquire(s.kids[1], factor)
	return true
}

// lapse goes on with a CPick whose day is past.
func (d *deal) lapse(s spot, factor int64) bool {
	if !d.isPast(s.N) {
		return false
	}
	d.acquire(s.kids[1], factor)
	return true
}

// picked is the place of what is acquired where a term waits: its own, unless a choice is of it. (Without a choice the label is empty, and no term's.)
func (d *deal) picked(at int, pick api.Choice) int {
	s := d.spots[at]
	if s.Op == api.CPick && s.S == pick.Label && !d.isPast(s.N) {
		return s.kids[pick.Which-1]
	}
	return at
}
