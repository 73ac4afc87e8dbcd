package gen_test

import (
	"math"
	"reflect"
	"slices"
	"testing"

	"usance/api"
	"usance/causal"
	"usance/elab"
	"usance/gen"
	"usance/syntax"
)

// P17.1: the chapter's examples.
func TestExamples(t *testing.T) {
	l := newLife(t, read("COne EUR"), 0)
	l.begin(3, nil)
	if len(l.code.Waits) != 0 || l.paid != 1 {
		t.Error(l.code)
	}
	l = newLife(t, read("CAt 10 (COne EUR)"), 7)
	if len(l.code.Waits) != 1 || l.code.Waits[0].Day != 10 || l.code.Waits[0].Label != "" {
		t.Error(l.code)
	}
	l.begin(5, nil)
	if !slices.Equal(l.holds, []api.Hold{{Factor: 1000000}}) || l.paid != 0 {
		t.Error(l.holds)
	}
	l.step(9, nil, api.Choice{})
	l.step(10, nil, api.Choice{})
	if len(l.holds) != 0 || l.paid != 1 {
		t.Error(l.holds, l.paid)
	}
}

// refuses checks that Compile answers an error and nothing else.
func refuses(t *testing.T, c api.Core, passes int, want api.Errno) {
	t.Helper()
	if code, e := gen.Compile(c, passes); e != want || !reflect.DeepEqual(code, api.Code{}) {
		t.Errorf("%d: %v, want %v", passes, e, want)
	}
}

// P17.1: passes are 0 to 15.
func TestWrongPasses(t *testing.T) {
	for passes := -40; passes < 60; passes++ {
		if passes >= 0 && passes <= 15 {
			compiled(t, read("CScale (OFeed a 0, COne EUR)"), passes)
			continue
		}
		refuses(t, read("CScale (OFeed a 0, COne EUR)"), passes, api.ErrGenForm)
		refuses(t, manyWaits(251), passes, api.ErrGenForm)
	}
	for _, passes := range []int{math.MinInt, math.MaxInt, 1 << 32, 1<<32 + 7, math.MinInt + 7, 1<<62 + 3} {
		refuses(t, read("CZero"), passes, api.ErrGenForm)
	}
}

// P17.1: terms that are no right contract, or look ahead, also where a pass would drop them.
func TestWrongTerms(t *testing.T) {
	for _, text := range []string{
		"7", "true", "ODate 9", "OFeed eur 0", "OAdd (2, 3)", "CGive (2)", "CGive", "CZero (CZero)", "COne", "COne eur", "COne EURO", "CBoth (CZero)", "CScale (CZero, 1)", "CScale (true, CZero)", "CScale (1000000000000001, CZero)", "CIf (true, CZero)", "CIf (OBool 2, CZero, CZero)", "CIf (true, CZero, CGive)",
		"CAt -1 (CZero)", "CAt 73049 (CZero)", "CWhen 5 (1, CZero)", "CPick 5 (CZero, CZero)", "CPick 5 A (CZero, CZero)", "CScale (OFeed eur -1, CZero)", "CIf (true, CZero, CScale (OFeed eur -3660, CZero))", "CIf (OBefore (ONow -1, ODate 9), CZero, CZero)", "CScale (OFeed eur 3661, CZero)", "CScale (OFeed Eur 0, CZero)", "CScale (ONow 0, CZero)",
	} {
		for passes := -1; passes < 17; passes++ {
			refuses(t, read(text), passes, api.ErrGenForm)
		}
	}
	for op := range api.CPick + 2 {
		refuses(t, api.Core{Op: op, N: 1 << 60}, 3, api.ErrGenForm)
		kids := make([]api.Core, 2)
		kids[0], kids[1] = api.Core{Op: op, Kids: kids}, api.Core{Op: op, Kids: kids}
		refuses(t, kids[0], 3, api.ErrGenForm)
	}
	for passes := range 16 {
		refuses(t, nest(200, "CGive (x)", "CZero"), passes, api.ErrGenForm)
	}
}

// P17.1: contracts by chance, of which one thing was changed: as causal says.
func TestSpoiltTerms(t *testing.T) {
	g := newGrower(174)
	seen := map[api.Errno]int{}
	for range 4000 {
		c := g.contract(1, 60)
		part := &c
		for len(part.Kids) > 0 && g.Intn(3) > 0 {
			part = &part.Kids[g.Intn(len(part.Kids))]
		}
		switch g.Intn(3) {
		case 0:
			part.Op = g.Intn(api.CPick + 3)
		case 1:
			part.N = g.any(-1, 0, 1, 73049, api.MaxNum+1, math.MinInt64)
		case 2:
			part.Kids = append(part.Kids, g.right("nbdc"[g.Intn(4)], 2))
		}
		code, e := gen.Compile(c, g.Intn(16))
		seen[e]++
		if want := causal.Check(c) == api.OK; want != (e == api.OK) || gen.Right(code) != want || !want && e != api.ErrGenForm {
			t.Fatal(c, e)
		}
	}
	if seen[api.OK] < 300 || seen[api.ErrGenForm] < 300 {
		t.Error(seen)
	}
}

// spread is a contract of some others, as flat as it can be.
func spread(l []api.Core) api.Core {
	if len(l) == 1 {
		return l[0]
	}
	half := len(l) / 2
	return api.Core{Op: api.CBoth, Kids: []api.Core{spread(l[:half]), spread(l[half:])}}
}

func spreadOf(count int, texts ...string) api.Core {
	var l []api.Core
	for i := range count {
		l = append(l, read(texts[i%len(texts)]))
	}
	return spread(l)
}

// manyWaits is a contract of so many terms that may wait, of all Ops.
func manyWaits(count int) api.Core {
	return spreadOf(count, "CAt 9 (CZero)", "CWhen 9 (OEq (1, 2), COne USD)", "CPick 9 ex (CZero, COne USD)", "CIf (OLt (OFeed a 0, 2), CZero, COne EUR)", "CScale (ONeg (OFeed a 1), COne EUR)", "CGive (CAt 8 (COne USD))")
}

// P17.1: no more than 250 terms of a contract may wait, as it was ahead of the passes.
func TestManyWaits(t *testing.T) {
	for _, one := range []string{
		"CAt 9 (COne EUR)", "CAt 73048 (CZero)", "CWhen 9 (true, CZero)", "CWhen 9 (false, CZero)", "CPick 9 ex (COne EUR, CZero)", "CScale (OFeed a 0, COne EUR)", "CScale (OMul (0, OFeed a 0), CZero)", "CIf (OLt (OFeed a 0, 1), CZero, CZero)", "CScale (OIf (true, 1, OFeed a 3660), CZero)",
	} {
		for passes := range 16 {
			compiled(t, spreadOf(249, one), passes)
			compiled(t, spreadOf(250, one), passes)
			refuses(t, spreadOf(251, one), passes, api.ErrGenLong)
			refuses(t, spreadOf(252, one), passes, api.ErrGenLong)
		}
	}
	for passes := range 16 {
		compiled(t, spreadOf(125, "CAt 9 (CScale (OFeed a 0, COne EUR))"), passes)
		refuses(t, spreadOf(126, "CAt 9 (CScale (OFeed a 0, COne EUR))"), passes, api.ErrGenLong)
		refuses(t, spreadOf(400, "CAt 9 (CAt 10 (CZero))"), passes, api.ErrGenLong)
		refuses(t, spreadOf(126, "CAt 9 (CAt 10 (CZero))"), passes, api.ErrGenLong)
		refuses(t, spreadOf(251, "CIf (false, CAt 9 (CZero), COne EUR)"), passes, api.ErrGenLong)
	}
}

// P17.1: what needs no feed never waits, however many there are.
func TestManyThatNeverWait(t *testing.T) {
	for _, one := range []string{
		"CScale (2, COne EUR)", "CScale (OYears (ONow 0, ODate 9), COne EUR)", "CIf (OBefore (ONow 0, ODate 9), COne EUR, CZero)", "CIf (true, CZero, COne EUR)", "CGive (COne EUR)",
	} {
		for passes := range 16 {
			l := newLife(t, spreadOf(280, one), passes)
			if len(l.code.Waits) != 0 {
				t.Error(one, passes, len(l.code.Waits))
			}
			l.begin(5, nil)
		}
	}
}

// P17.1: 250 waits of all kinds, and what comes of them.
func TestAllWaits(t *testing.T) {
	for passes := range 16 {
		l := newLife(t, manyWaits(250), passes)
		feeds := []api.Feed{{Name: "a", Stamps: []api.Stamp{{Day: 7, N: 5}}}}
		l.begin(5, nil)
		l.step(7, feeds, api.Choice{})
		l.step(8, feeds, api.Choice{Label: "ex", Which: 2})
		l.step(9, feeds, api.Choice{})
		l.step(10, feeds, api.Choice{})
		if len(l.holds) != 0 || l.paid == 0 {
			t.Error(passes, l.holds)
		}
	}
	refuses(t, manyWaits(251), 0, api.ErrGenLong)
}

// made is the contract that a text says.
func made(t *testing.T, rows string) api.Core {
	t.Helper()
	m, at, e := syntax.Module("module m; " + rows)
	if e != api.OK {
		t.Fatal(rows, at, e)
	}
	c, e := elab.Term([]api.Node{m}, "f", nil)
	if e != api.OK {
		t.Fatal(rows, e)
	}
	return c
}

// T3, P17.1: contracts that are written as texts, day by day.
func TestTexts(t *testing.T) {
	g := newGrower(175)
	for _, rows := range []string{
		`let f = at(1900-01-09, scale(100, one(EUR)));`,
		`let f = both(one(EUR), give(one(USD)));`,
		`let f = when(1900-01-09, feed "eur" < 1, one(USD));`,
		`let f = pick "a"(1900-01-09, scale(feed "a", one(EUR)), zero);`,
		`let late(x) = ago(2, x); let f = scale(late(feed "eur"), one(EUR));`,
		`let f = scale(0.4 + 0.6, one(EUR));`,
		`let two(x) = x * x + x; let f = when(1900-01-12, two(feed "eur") < two(feed "a") or before(now, 1900-01-05), if two(feed "a") = 2 then one(EUR) else give(scale(two(feed "b"), one(EUR))));`,
		`let f = both(give(both(one(EUR), at(1900-01-05, give(one(USD))))), pick "b"(1900-01-09, at(1900-01-11, one(USD)), when(1900-01-14, feed "b" < 0, one(GBP))));`,
	} {
		for passes := range 16 {
			l := newLife(t, made(t, rows), passes)
			for range 10 {
				feeds := g.feeds()
				l.begin(0, feeds)
				for on := range 20 {
					feeds = g.more(feeds)
					l.step(on, feeds, g.choice())
				}
			}
		}
	}
}

// R3, R4: terms that are handed in stay as they are, and what is answered is new.
func TestNewMemory(t *testing.T) {
	g := newGrower(176)
	for i := range 300 {
		c := g.contract(3, 100)
		c.Kids = append(c.Kids, api.Core{Op: 77})[:len(c.Kids)]
		was := copied(c)
		one, two := compiled(t, c, i%16), compiled(t, c, i%16)
		if !reflect.DeepEqual(one, two) || !same(c, was) {
			t.Fatal(c, one, two)
		}
		clear(one.Ins[:cap(one.Ins)])
		clear(one.Waits[:cap(one.Waits)])
		if three := compiled(t, c, i%16); !reflect.DeepEqual(two, three) || !same(c, was) || c.Kids[:len(c.Kids)+1][len(c.Kids)].Op != 77 {
			t.Fatal(c, two, three)
		}
	}
}
