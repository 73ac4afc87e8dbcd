package denote_test

import (
	"fmt"
	"slices"
	"testing"

	"usance/api"
	"usance/denote"
)

// wide is a sum of so many terms, an odd count, as flat as it can be, of a feed's values.
func wide(terms int) api.Core {
	if terms == 1 {
		return feed("a", 0)
	}
	half := (terms - 1) / 2
	half -= 1 - half%2
	return of(api.OAdd, wide(half), wide(terms-1-half))
}

// deep is a bottom, with terms of one kid about it, so many in all.
func deep(terms, op int, bottom api.Core) api.Core {
	for range terms - 1 {
		bottom = of(op, bottom)
	}
	return bottom
}

// P15.1, P15.2: terms as great and as deep as they may be, and greater and deeper.
func TestGreatTerms(t *testing.T) {
	a := feeds(told("a", 3, 2))
	is(t, wide(1999), 3, a, 2000)
	isNone(t, wide(1999), 2, a)
	refuses(t, "Value", asked{c: wide(2001), f: a}, false)
	is(t, of(api.ONeg, wide(1999)), 3, a, -2000)
	refuses(t, "Value", asked{c: of(api.ONeg, of(api.ONeg, wide(1999))), f: a}, false)
	is(t, deep(200, api.ONeg, number(5)), 3, a, -5)
	refuses(t, "Value", asked{c: deep(201, api.ONeg, number(5))}, false)
	begins(t, deep(200, api.CGive, one("EUR")), 3, nil, nil, pays(3, of1("EUR", -1000000)))
	refuses(t, "Begin", asked{c: deep(201, api.CGive, one("EUR"))}, false)
	refuses(t, "Step", asked{c: deep(201, api.CGive, one("EUR"))}, false)
	begins(t, give(scale(wide(1997), one("EUR"))), 3, a, nil, pays(3, of1("EUR", -1998)))
	begins(t, give(scale(wide(1997), one("EUR"))), 2, a, lives(1, -1000000), nil)
	steps(t, deep(199, api.CGive, at(9, zero())), lives(198, 7), 8, nil, none, lives(198, 7), nil)
	last := both(scale(wide(1993), zero()), give(at(9, one("EUR"))))
	begins(t, last, 3, a, lives(1997, -1000000), nil)
	steps(t, last, lives(1997, 5), 9, a, none, nil, pays(9, of1("EUR", 5)))
	refuses(t, "Step", asked{c: last, l: lives(1998, 5)}, false)
	refuses(t, "Step", asked{c: last, l: lives(1999, 5)}, false)
}

// spread is a contract of so many parts, as flat as it can be.
func spread(parts int, part api.Core) api.Core {
	if parts == 1 {
		return part
	}
	return both(spread(parts/2, part), spread(parts-parts/2, part))
}

// P15.2, P15.3: as many lives and transfers as there can be.
func TestManyLives(t *testing.T) {
	c := spread(666, at(9, one("EUR")))
	got := sure(t)(denote.Begin(c, 8, nil))
	if len(got.lives) != 666 || len(got.transfers) != 0 || !rising(got.lives) {
		t.Error(len(got.lives), len(got.transfers))
	}
	got = sure(t)(denote.Step(c, got.lives, 9, nil, none))
	if len(got.lives) != 0 || len(got.transfers) != 666 {
		t.Error(len(got.lives), len(got.transfers))
	}
	begins(t, spread(1000, zero()), 3, nil, nil, nil)
	if got := sure(t)(denote.Begin(spread(1000, one("EUR")), 3, nil)); len(got.transfers) != 1000 {
		t.Error(len(got.transfers))
	}
}

// P15.3: lives that all stand within one another, above as much as there can be: all is done, and at once.
func TestNestedLives(t *testing.T) {
	c := spread(600, at(9, one("EUR")))
	for range 188 {
		c = at(5, c)
	}
	all := flat(c)
	var l []api.Live
	for place, part := range all {
		if part.Op == api.CAt {
			l = append(l, api.Live{At: place, Factor: int64(place)})
		}
	}
	if len(all) > 2000 || len(l) != 788 {
		t.Fatal(len(all), len(l))
	}
	got := sure(t)(denote.Step(c, l, 5, nil, none))
	if len(got.lives) != 188*600+600 || len(got.transfers) != 0 {
		t.Error(len(got.lives), len(got.transfers))
	}
	got = sure(t)(denote.Step(c, l, 9, nil, none))
	if len(got.lives) != 0 || len(got.transfers) != 187*600+600 { // the outermost's factor is 0
		t.Error(len(got.lives), len(got.transfers))
	}
}

// P15.1: the greatest feeds: each of their values is found.
func TestGreatFeeds(t *testing.T) {
	var f []api.Feed
	for i := range 64 {
		next := api.Feed{Name: fmt.Sprintf("a%02d", i)}
		for k := range 4096 {
			next.Stamps = append(next.Stamps, api.Stamp{Day: i + 17*k, N: int64(i*10000 + k)})
		}
		f = append(f, next)
	}
	for _, i := range []int{0, 1, 31, 32, 62, 63} {
		name := fmt.Sprintf("a%02d", i)
		for _, k := range []int{0, 1, 2047, 2048, 4094, 4095} {
			is(t, feed(name, 0), i+17*k, f, int64(i*10000+k))
			is(t, feed(name, 0), i+17*k+16, f, int64(i*10000+k))
			is(t, feed(name, 3), i+17*k+19, f, int64(i*10000+k))
		}
		if i > 0 {
			isNone(t, feed(name, 0), i-1, f)
		}
		is(t, feed(name, 0), 73048, f, int64(i*10000+4095))
	}
	isNone(t, feed("a", 0), 73048, f)
	isNone(t, feed("a64", 0), 73048, f)
	isNone(t, feed("a00_", 0), 73048, f)
}

// R1: terms that go round in themselves, or share kids without end, are refused at once.
func TestAround(t *testing.T) {
	for op := range api.CPick + 2 {
		for times := range 4 {
			kids := make([]api.Core, times+1)
			for i := range kids {
				kids[i] = api.Core{Op: op, Kids: kids}
			}
			a := asked{c: kids[0], l: lives(0, 1)}
			for _, call := range []string{"Value", "Begin", "Step"} {
				refuses(t, call, a, false)
			}
		}
	}
	c := one("EUR")
	for i := range 100 {
		c = both(c, c)
		refuses(t, "Begin", asked{c: c}, i < 9)
		refuses(t, "Step", asked{c: c}, i < 9)
	}
	loop := []api.Core{truth(1), {}, {}}
	loop[1], loop[2] = of(api.OIf, loop...), of(api.OIf, loop...)
	loop[1].Kids, loop[2].Kids = loop, loop
	refuses(t, "Value", asked{c: loop[1]}, false)
	refuses(t, "Begin", asked{c: scale(loop[1], zero())}, false)
	refuses(t, "Begin", asked{c: of(api.CBoth, slices.Repeat([]api.Core{zero()}, 1<<20)...)}, false)
}
