package opt_test

import (
	"fmt"
	"math"
	"math/rand"
	"reflect"
	"slices"
	"testing"

	"usance/api"
	"usance/causal"
	"usance/opt"
)

// refuses checks that Do answers ErrOptForm and nothing else, or, if all is right, OK.
func refuses(t *testing.T, c api.Core, passes int, right bool) {
	t.Helper()
	d, e := opt.Do(c, passes)
	if right != (e == api.OK) || !right && (e != api.ErrOptForm || !same(d, api.Core{})) {
		t.Errorf("%.500s, %d: %v, %v", fmt.Sprint(c), passes, d, e)
	}
}

// P16.1: passes are 0 to 15.
func TestWrongPasses(t *testing.T) {
	for _, c := range []api.Core{read("CZero"), read("CScale (OAdd (1, 0), COne EUR)"), read("CScale (OFeed a -1, CZero)"), {}} {
		right := causal.Check(c) == api.OK
		for passes := -20; passes < 40; passes++ {
			refuses(t, c, passes, right && passes >= 0 && passes <= 15)
		}
		for _, passes := range []int{math.MinInt, math.MaxInt, 1 << 32, 1<<32 + 7, 1<<62 + 3, math.MinInt + 7, -8, -16, 64, 128, 256 + 3} {
			refuses(t, c, passes, false)
		}
	}
}

// P16.1: terms that are no right contract, or look ahead, whatever the passes: also where a rule would drop them.
func TestWrongTerms(t *testing.T) {
	for _, text := range []string{
		"ONum 7", "true", "ODate 9", "OFeed eur 0", "ONow 0", "OAdd (ONum 2, ONum 3)", "OIf (true, 0, 1)", "OIf (true, CZero, CZero)", "ONum 1000000000000001", "ODate 73049",
		"CGive (ONum 2)", "CGive", "CGive (CGive)", "CGive (CZero, CZero)", "CZero (CZero)", "CZero 1", "CZero a", "COne", "COne eur", "COne EURO", "COne 1 EUR", "CBoth (CZero)", "CBoth (CZero, CZero, CZero)", "CBoth (CZero, 1)", "CScale (CZero, 1)", "CScale (1)", "CScale (true, CZero)", "CScale (ODate 5, CZero)", "CScale (OAdd (1, true), CZero)", "CScale (ONum 1000000000000001, CZero)",
		"CIf (true, CZero)", "CIf (1, CZero, CZero)", "CIf (OBool 2, CZero, CZero)", "CIf (true, CZero, CGive)", "CIf (true, CZero, COne eur)", "CIf (false, CGive, CZero)", "CAt -1 (CZero)", "CAt 73049 (CZero)", "CAt 5 (CAt 73049 (CZero))", "CWhen 5 (false, COne)", "CWhen 5 (1, CZero)", "CWhen -1 (false, CZero)", "CPick 5 (CZero, CZero)", "CPick 5 A (CZero, CZero)", "CPick 73049 a (CZero, CZero)",
		"CScale (OFeed eur -1, CZero)", "CScale (1, CScale (OFeed eur -1, CZero))", "CIf (true, CZero, CScale (OFeed eur -3660, CZero))", "CIf (OAnd (false, OBefore (ONow -1, ODate 9)), CZero, CZero)", "CWhen 5 (false, CScale (OFeed eur -1, CZero))", "CScale (OFeed eur 3661, CZero)", "CScale (OFeed Eur 0, CZero)", "CScale (ONow 0, CZero)",
	} {
		c := read(text)
		for passes := -1; passes < 17; passes++ {
			refuses(t, c, passes, false)
		}
	}
	for passes := -1; passes < 17; passes++ {
		refuses(t, api.Core{}, passes, false)
		for _, op := range []int{math.MinInt, -1, api.CPick + 1, 256 + api.CZero, math.MaxInt} {
			refuses(t, api.Core{Op: op}, passes, false)
		}
	}
}

// spoil changes one thing of a term, or of one within it.
func (g grower) spoil(c *api.Core) {
	if len(c.Kids) > 0 && g.Intn(3) > 0 {
		g.spoil(&c.Kids[g.Intn(len(c.Kids))])
		return
	}
	switch g.Intn(5) {
	case 0:
		c.Op = g.Intn(api.CPick + 3)
	case 1:
		c.N = g.any(-1, 0, 1, 73049, api.MaxNum+1, math.MinInt64)
	case 2:
		c.S = []string{"", "a", "EUR", "A", "a.b"}[g.Intn(5)]
	case 3:
		c.Kids = append(c.Kids, g.right("nbdc"[g.Intn(4)], 2))
	case 4:
		c.Kids = c.Kids[:len(c.Kids)/2]
	}
}

// P16.1: contracts by chance, of which one thing was changed: as causal says.
func TestSpoiltTerms(t *testing.T) {
	g := grower{rand.New(rand.NewSource(165))}
	seen := map[bool]int{}
	for range 10000 {
		c := g.contract(100)
		g.spoil(&c)
		right := causal.Check(c) == api.OK
		seen[right]++
		refuses(t, c, g.Intn(16), right)
	}
	if seen[true] < 1000 || seen[false] < 1000 {
		t.Error(seen)
	}
}

// nest is a bottom with so many terms about it.
func nest(terms int, about, bottom string) api.Core {
	c := read(bottom)
	for range terms {
		c = put{terms: map[string]api.Core{"c": c, "x": c}}.in(read(about))
	}
	return c
}

// sum is a term of so many, an odd count, as flat as it can be.
func sum(terms int, leaf string) api.Core {
	if terms == 1 {
		return read(leaf)
	}
	half := (terms - 1) / 2
	half -= 1 - half%2
	return api.Core{Op: api.OAdd, Kids: []api.Core{sum(half, leaf), sum(terms-1-half, leaf)}}
}

// P16.1: terms as great and as deep as they may be, and greater and deeper.
func TestGreatTerms(t *testing.T) {
	scale := func(c api.Core) api.Core { return api.Core{Op: api.CScale, Kids: []api.Core{c, read("COne EUR")}} }
	give := func(c api.Core) api.Core { return api.Core{Op: api.CGive, Kids: []api.Core{c}} }
	great := give(scale(sum(1997, "ONum 3")))
	becomes(t, great, 1, read("CGive (CScale (ONum 2997, COne EUR))"))
	becomes(t, great, 6, great)
	great = give(scale(sum(1997, "OFeed eur 0")))
	becomes(t, great, 15, great)
	becomes(t, give(scale(sum(1997, "0"))), 2, read("CGive (CScale (0, COne EUR))"))
	for passes := range 16 {
		refuses(t, give(great), passes, false)
		refuses(t, nest(200, "CGive (c)", "COne EUR"), passes, false)
	}
	becomes(t, nest(199, "CGive (c)", "COne EUR"), 2, read("CGive (COne EUR)"))
	becomes(t, nest(199, "CGive (c)", "COne EUR"), 13, nest(199, "CGive (c)", "COne EUR"))
	becomes(t, nest(199, "CGive (c)", "CZero"), 2, read("CZero"))
	becomes(t, nest(199, "CAt 9 (c)", "COne EUR"), 2, read("CAt 9 (COne EUR)"))
	becomes(t, nest(199, "CScale (1, c)", "COne EUR"), 2, read("COne EUR"))
	becomes(t, nest(199, "CIf (false, COne USD, c)", "COne EUR"), 4, read("COne EUR"))
	becomes(t, nest(199, "CWhen 9 (false, c)", "COne EUR"), 4, read("CWhen 9 (false, CZero)"))
	becomes(t, scale(nest(198, "ONeg (x)", "ONum 5")), 1, read("CScale (ONum 5, COne EUR)"))
	becomes(t, scale(nest(198, "ONeg (x)", "OFeed eur 0")), 3, read("CScale (OFeed eur 0, COne EUR)"))
	becomes(t, scale(nest(198, "OAdd (0, x)", "OFeed eur 0")), 2, read("CScale (OFeed eur 0, COne EUR)"))
}

// R1: terms that go round in themselves, or share kids without end, are refused at once.
func TestAround(t *testing.T) {
	for op := range api.CPick + 2 {
		for times := range 4 {
			kids := make([]api.Core, times+1)
			for i := range kids {
				kids[i] = api.Core{Op: op, Kids: kids}
			}
			refuses(t, kids[0], 7, false)
		}
	}
	c := read("COne EUR")
	for i := range 100 {
		c = api.Core{Op: api.CBoth, Kids: []api.Core{c, c}}
		refuses(t, c, 7, i < 9)
	}
	refuses(t, api.Core{Op: api.CBoth, Kids: slices.Repeat([]api.Core{read("CZero")}, 1<<20)}, 7, false)
}

// lists puts all places of a term's lists, their spare room too, into a set; false: one was there.
func lists(c api.Core, seen map[*api.Core]bool) bool {
	room := c.Kids[:cap(c.Kids)]
	for i := range room {
		if seen[&room[i]] {
			return false
		}
		seen[&room[i]] = true
	}
	for _, kid := range c.Kids {
		if !lists(kid, seen) {
			return false
		}
	}
	return true
}

// roomy is a term whose lists have spare room, in which something stands.
func roomy(c api.Core) api.Core {
	out := api.Core{Op: c.Op, N: c.N, S: c.S, Kids: make([]api.Core, 0, len(c.Kids)+3)}
	for _, kid := range c.Kids {
		out.Kids = append(out.Kids, roomy(kid))
	}
	room := out.Kids[:cap(out.Kids)]
	for i := range 3 {
		room[len(room)-1-i] = read("CGive (CZero)")
	}
	return out
}

// whole is a term with what stands in its lists' spare room.
func whole(c api.Core) api.Core {
	out := api.Core{Op: c.Op, N: c.N, S: c.S}
	for _, kid := range c.Kids[:cap(c.Kids)] {
		out.Kids = append(out.Kids, whole(kid))
	}
	return out
}

// R3: what is handed in stays as it is, its spare room too, and is not part of what is answered; no two lists of an answer share any.
func TestNothingIsShared(t *testing.T) {
	g := grower{rand.New(rand.NewSource(166))}
	for range 3000 {
		c := roomy(g.contract(80))
		before := whole(c)
		seen := map[*api.Core]bool{}
		if !lists(c, seen) {
			t.Fatal(c)
		}
		for passes := range 16 {
			if d := done(t, c, passes); !lists(d, seen) {
				t.Fatalf("%v, %d: %v", c, passes, d)
			}
		}
		if !reflect.DeepEqual(whole(c), before) {
			t.Fatalf("%v: %v", before, c)
		}
	}
}

// R3: where a contract's own lists are one, those of the answer are not; and what is done with an answer changes none to come.
func TestOneListTwice(t *testing.T) {
	kid := read("CScale (OAdd (OFeed eur 0, OAdd (0, 1)), CAt 5 (CGive (COne EUR)))")
	c := api.Core{Op: api.CBoth, Kids: []api.Core{kid, kid}}
	c = api.Core{Op: api.CPick, N: 5, S: "ex", Kids: []api.Core{{Op: api.CAt, N: 3, Kids: c.Kids[:1]}, {Op: api.CIf, Kids: []api.Core{read("true"), c, c}}}}
	for passes := range 16 {
		d := done(t, c, passes)
		kept := copied(d)
		if !lists(d, map[*api.Core]bool{}) {
			t.Errorf("%d: %v", passes, d)
		}
		for _, part := range flat(d) {
			clear(part.Kids[:cap(part.Kids)])
		}
		if again := done(t, c, passes); !same(again, kept) {
			t.Errorf("%d: %v, want %v", passes, again, kept)
		}
	}
}

// R3: nil and empty lists are one.
func TestEmptyLists(t *testing.T) {
	empty := []api.Core{}
	c := api.Core{Op: api.CBoth, Kids: []api.Core{{Op: api.CZero, Kids: empty}, {Op: api.CScale, Kids: []api.Core{{Op: api.ONum, N: api.One, Kids: empty}, {Op: api.COne, S: "EUR", Kids: make([]api.Core, 0, 5)}}}}}
	becomes(t, c, 2, read("COne EUR"))
	becomes(t, c, 0, read("CBoth (CZero, CScale (1, COne EUR))"))
}
