package vm_test

import (
	"math/rand"
	"slices"

	"usance/api"
)

// types are the Ops' types of kids and, last, their own: n, b, d, c for a number, a truth, a day, a contract.
var types = map[int][]string{
	api.ONum: {"n"}, api.OBool: {"b"}, api.ODate: {"d"}, api.OFeed: {"n"}, api.ONow: {"d"}, api.ONeg: {"nn"}, api.OAdd: {"nnn"}, api.OSub: {"nnn"}, api.OMul: {"nnn"}, api.ODiv: {"nnn"}, api.OLt: {"nnb"}, api.OLe: {"nnb"}, api.OEq: {"nnb"},
	api.ONot: {"bb"}, api.OAnd: {"bbb"}, api.OOr: {"bbb"}, api.OBefore: {"ddb"}, api.OPlus: {"dnd"}, api.OMonths: {"dnd"}, api.OYears: {"ddn"}, api.OYears30: {"ddn"}, api.OIf: {"bnnn", "bbbb", "bddd"},
	api.CZero: {"c"}, api.COne: {"c"}, api.CGive: {"cc"}, api.CScale: {"ncc"}, api.CBoth: {"ccc"}, api.CIf: {"bccc"}, api.CAt: {"cc"}, api.CWhen: {"bcc"}, api.CPick: {"ccc"},
}

// grower makes contracts, feeds, choices and bytecodes by chance.
type grower struct {
	*rand.Rand
	made map[byte][]api.Core // observables, to be taken again
}

func newGrower(seed int64) grower {
	return grower{rand.New(rand.NewSource(seed)), map[byte][]api.Core{}}
}

func (g grower) any(l ...int64) int64 { return l[g.Intn(len(l))] }

// small is a day within three weeks, so that days of a contract and of its events meet.
func (g grower) small() int64 { return g.Int63n(21) }

func (g grower) number() int64 {
	return g.any(0, api.One, api.One, -api.One, 1, 500000, 1500000, 3000000, g.Int63n(20000000)-10000000, g.Int63n(20000000)-10000000, g.Int63n(2*api.MaxNum)-api.MaxNum, api.MaxNum, -api.MaxNum)
}

// own gives a term an N and an S.
func (g grower) own(op int) api.Core {
	c := api.Core{Op: op}
	switch op {
	case api.ONum:
		c.N = g.number()
	case api.OBool:
		c.N = g.any(0, 1)
	case api.ODate:
		c.N = g.any(0, 73048, g.Int63n(73049), g.small(), g.small())
	case api.CAt, api.CWhen, api.CPick:
		c.N = g.any(0, 73047, 73048, g.small(), g.small(), g.small(), g.small(), g.small())
	case api.OFeed, api.ONow:
		c.N = g.any(0, 0, 0, 0, 0, 0, 1, 1, 2, 9, 3660)
	}
	switch op {
	case api.OFeed, api.CPick:
		c.S = []string{"a", "b", "eur"}[g.Intn(3)]
	case api.COne:
		c.S = []string{"EUR", "USD", "GBP"}[g.Intn(3)]
	}
	return c
}

// right is a right core term of a letter's type that does not look ahead, by chance an observable that was made before.
func (g grower) right(letter byte, deep int) api.Core {
	if again := g.made[letter]; letter != 'c' && len(again) > 0 && g.Intn(3) == 0 {
		return copied(again[g.Intn(len(again))])
	}
	var fitting []string
	var theirs []int
	leaf := deep == 1 || g.Intn(7) == 0
	for op := api.ONum; op <= api.CPick; op++ {
		for _, row := range types[op] {
			if row[len(row)-1] == letter && leaf == (len(row) == 1) {
				fitting, theirs = append(fitting, row), append(theirs, op)
			}
		}
	}
	which := g.Intn(len(theirs))
	c := g.own(theirs[which])
	for i := range len(fitting[which]) - 1 {
		below := deep - 1
		if fitting[which][i] != 'c' && letter == 'c' {
			below = 1 + g.Intn(4)
			clear(g.made)
		}
		c.Kids = append(c.Kids, g.right(fitting[which][i], below))
	}
	if len(flat(c)) <= 12 {
		g.made[letter] = append(g.made[letter], c)
	}
	return c
}

// contract is one of so many terms, of which at most 250 may wait.
func (g grower) contract(least, most int) api.Core {
	for {
		clear(g.made)
		c := g.right('c', 1+g.Intn(9))
		if size := len(flat(c)); least <= size && size <= most && len(waiters(c)) <= 250 {
			return c
		}
	}
}

// great is a contract of some 1700 terms or more, put together by chance, in parts of which some stand deep.
func (g grower) great() api.Core {
	c := g.contract(30, 200)
	for size, waits := len(flat(c)), len(waiters(c)); size < 1700; {
		more := g.contract(30, 200)
		size += 1 + len(flat(more))
		if waits += len(waiters(more)); waits > 250 {
			return c
		}
		c = api.Core{Op: api.CBoth, Kids: []api.Core{c, more}}
		if g.Intn(2) == 0 {
			slices.Reverse(c.Kids)
		}
	}
	return c
}

// waiters are the places of a contract's terms that may wait.
func waiters(c api.Core) []int {
	var out []int
	for at, term := range flat(c) {
		switch term.Op {
		case api.CAt, api.CWhen, api.CPick:
			out = append(out, at)
		case api.CScale, api.CIf:
			if slices.ContainsFunc(flat(term.Kids[0]), func(part api.Core) bool { return part.Op == api.OFeed }) {
				out = append(out, at)
			}
		}
	}
	return out
}

// stamps are at most so many, from a day on.
func (g grower) stamps(from, most int) []api.Stamp {
	var out []api.Stamp
	for range g.Intn(most + 1) {
		from += g.Intn(9)
		if from > api.MaxDay {
			break
		}
		out = append(out, api.Stamp{Day: from, N: g.number()})
		from++
	}
	return out
}

func (g grower) feeds() []api.Feed {
	var out []api.Feed
	if g.Intn(3) == 0 {
		for _, name := range []string{"a", "b", "eur"} {
			out = append(out, api.Feed{Name: name, Stamps: append([]api.Stamp{{N: g.number()}}, g.stamps(1, 6)...)})
		}
		return out
	}
	for _, name := range []string{"a", "b", "eur"} {
		if g.Intn(4) > 0 {
			out = append(out, api.Feed{Name: name, Stamps: g.stamps(0, 4)})
		}
	}
	return out
}

// more are feeds of which each may have told more.
func (g grower) more(f []api.Feed) []api.Feed {
	var out []api.Feed
	for _, old := range f {
		last := 0
		for _, s := range old.Stamps {
			last = s.Day + 1
		}
		out = append(out, api.Feed{Name: old.Name, Stamps: append(slices.Clone(old.Stamps), g.stamps(last, 1)...)})
	}
	return out
}

func (g grower) choice() api.Choice {
	if g.Intn(3) == 0 {
		return api.Choice{}
	}
	return api.Choice{Label: []string{"a", "b", "eur", "ex"}[g.Intn(4)], Which: 1 + g.Intn(2)}
}

// day is one for an event.
func (g grower) day() int {
	return int(g.any(0, g.small(), g.small(), g.small(), g.small(), 73047, 73048, g.Int63n(73049)))
}

// copied is a term in lists of its own.
func copied(c api.Core) api.Core {
	out := api.Core{Op: c.Op, N: c.N, S: c.S}
	for _, kid := range c.Kids {
		out.Kids = append(out.Kids, copied(kid))
	}
	return out
}

// flat are all terms of one, by their places.
func flat(c api.Core) []api.Core {
	out := []api.Core{c}
	for _, kid := range c.Kids {
		out = append(out, flat(kid)...)
	}
	return out
}
