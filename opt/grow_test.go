package opt_test

import (
	"math/rand"
	"slices"

	"usance/api"
)

// rows are the Ops' types of kids and, last, their own: n, b, d, c for a number, a truth, a day, a contract.
var rows = map[int][]string{
	api.ONum: {"n"}, api.OBool: {"b"}, api.ODate: {"d"}, api.OFeed: {"n"}, api.ONow: {"d"}, api.ONeg: {"nn"}, api.OAdd: {"nnn"}, api.OSub: {"nnn"}, api.OMul: {"nnn"}, api.ODiv: {"nnn"}, api.OLt: {"nnb"}, api.OLe: {"nnb"}, api.OEq: {"nnb"},
	api.ONot: {"bb"}, api.OAnd: {"bbb"}, api.OOr: {"bbb"}, api.OBefore: {"ddb"}, api.OPlus: {"dnd"}, api.OMonths: {"dnd"}, api.OYears: {"ddn"}, api.OYears30: {"ddn"}, api.OIf: {"bnnn", "bbbb", "bddd"},
	api.CZero: {"c"}, api.COne: {"c"}, api.CGive: {"cc"}, api.CScale: {"ncc"}, api.CBoth: {"ccc"}, api.CIf: {"bccc"}, api.CAt: {"cc"}, api.CWhen: {"bcc"}, api.CPick: {"ccc"},
}

// grower makes contracts, feeds and choices by chance.
type grower struct{ *rand.Rand }

func (g grower) any(l ...int64) int64 { return l[g.Intn(len(l))] }

// small is a day within three weeks, so that days of a contract and of its events meet.
func (g grower) small() int64 { return g.Int63n(21) }

// number is mostly one that rules ask for.
func (g grower) number() int64 {
	return g.any(0, 0, 0, api.One, api.One, api.One, -api.One, 1, 500000, 1500000, 3000000, g.Int63n(20000000)-10000000, g.Int63n(2*api.MaxNum)-api.MaxNum, api.MaxNum, -api.MaxNum)
}

// own gives a term an N and an S.
func (g grower) own(op int) api.Core {
	c := api.Core{Op: op}
	switch op {
	case api.ONum:
		c.N = g.number()
	case api.OBool:
		c.N = g.any(0, 1)
	case api.ODate:
		c.N = g.any(0, 73048, g.Int63n(73049), g.small(), g.small())
	case api.CAt, api.CWhen, api.CPick:
		c.N = g.any(0, 73048, g.small(), g.small(), g.small(), g.small(), g.small())
	case api.OFeed, api.ONow:
		c.N = g.any(0, 0, 0, 1, 2, 9, 3660)
	}
	switch op {
	case api.OFeed, api.CPick:
		c.S = []string{"a", "b", "eur"}[g.Intn(3)]
	case api.COne:
		c.S = []string{"EUR", "USD", "GBP"}[g.Intn(3)]
	}
	return c
}

// right is a right core term of a letter's type, at most so deep, that does not look ahead.
func (g grower) right(letter byte, depth int) api.Core {
	if again := g.Intn(12); depth > 2 && again < 2 && (letter == 'c' || letter == 'n' && again == 0) {
		return g.twice(letter, depth)
	}
	var fitting []string
	var theirs []int
	leaf := depth == 1 || g.Intn(6) == 0
	for op := api.ONum; op <= api.CPick; op++ {
		for _, row := range rows[op] {
			if row[len(row)-1] == letter && leaf == (len(row) == 1) {
				fitting, theirs = append(fitting, row), append(theirs, op)
			}
		}
	}
	which := g.Intn(len(theirs))
	c := g.own(theirs[which])
	for i := range len(fitting[which]) - 1 {
		below := depth - 1
		if fitting[which][i] != 'c' && letter == 'c' {
			below = min(below, 3)
		}
		c.Kids = append(c.Kids, g.right(fitting[which][i], below))
	}
	return c
}

// twice is a term within one of its own Op, that chance alone would seldom make.
func (g grower) twice(letter byte, depth int) api.Core {
	op := []int{api.CGive, api.CAt, api.CAt}[g.Intn(3)]
	if letter == 'n' {
		op = api.ONeg
	}
	outer, inner := g.own(op), g.own(op)
	inner.Kids = []api.Core{g.right(letter, depth-2)}
	outer.Kids = []api.Core{inner}
	return outer
}

// contract is one of at most so many terms.
func (g grower) contract(most int) api.Core {
	for {
		if c := g.right('c', 1+g.Intn(8)); len(flat(c)) <= most {
			return c
		}
	}
}

// stamps are at most so many, from a day on.
func (g grower) stamps(from, most int) []api.Stamp {
	var out []api.Stamp
	for range g.Intn(most + 1) {
		from += g.Intn(9)
		if from > api.MaxDay {
			break
		}
		out = append(out, api.Stamp{Day: from, N: g.number()})
		from++
	}
	return out
}

func (g grower) feeds() []api.Feed {
	var out []api.Feed
	for _, name := range []string{"a", "b", "eur"} {
		if g.Intn(4) > 0 {
			out = append(out, api.Feed{Name: name, Stamps: g.stamps(0, 4)})
		}
	}
	return out
}

// more are feeds of which each may have told more.
func (g grower) more(f []api.Feed) []api.Feed {
	var out []api.Feed
	for _, old := range f {
		last := 0
		for _, s := range old.Stamps {
			last = s.Day + 1
		}
		out = append(out, api.Feed{Name: old.Name, Stamps: append(slices.Clone(old.Stamps), g.stamps(last, 1)...)})
	}
	return out
}

func (g grower) choice() api.Choice {
	if g.Intn(3) == 0 {
		return api.Choice{}
	}
	return api.Choice{Label: []string{"a", "b", "eur", "ex"}[g.Intn(4)], Which: 1 + g.Intn(2)}
}
