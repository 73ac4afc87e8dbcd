package gen_test

import (
	"fmt"
	"testing"

	"usance/api"
	"usance/gen"
)

// count is how many instructions of an Op there are.
func count(c api.Code, op int) int {
	n := 0
	for _, i := range c.Ins {
		if i.Op == op {
			n++
		}
	}
	return n
}

// P17.1: with PassShare alike parts of an observable are reckoned once, where they are on all ways.
func TestShare(t *testing.T) {
	for _, test := range []struct {
		c                            string
		feeds, muls                  int // without
		sharedFeeds, sharedMuls, all int // with
	}{
		{"CScale (OAdd (OFeed a 0, OFeed a 0), COne EUR)", 2, 0, 1, 0, 0},
		{"CScale (OAdd (OFeed a 0, OFeed a 1), COne EUR)", 2, 0, 2, 0, 0},
		{"CScale (OAdd (OFeed a 0, OFeed b 0), COne EUR)", 2, 0, 2, 0, 0},
		{"CScale (OAdd (OMul (OFeed a 0, OFeed b 0), OMul (OFeed a 0, OFeed b 0)), COne EUR)", 4, 2, 2, 1, 0},
		{"CScale (OAdd (OMul (OFeed a 0, OFeed b 0), OMul (OFeed b 0, OFeed a 0)), COne EUR)", 4, 2, 2, 2, 0},
		{"CScale (OSub (OMul (OFeed a 0, OFeed b 0), OAdd (1, OMul (OFeed a 0, OFeed b 0))), COne EUR)", 4, 2, 2, 1, 0},
		{"CScale (OIf (OLt (OFeed a 0, 1), OMul (OFeed b 0, 2), OMul (OFeed b 0, 2)), COne EUR)", 3, 2, 3, 2, 0},
		{"CScale (OIf (OLt (OFeed a 0, 1), OMul (OFeed a 0, 2), OMul (OFeed a 0, 3)), COne EUR)", 3, 2, 1, 2, 0},
		{"CScale (OAdd (OIf (OLt (1, 2), OFeed a 0, 1), OFeed a 0), COne EUR)", 2, 0, 2, 0, 0},
		{"CScale (OAdd (OFeed a 0, OIf (OLt (1, 2), OFeed a 0, 1)), COne EUR)", 2, 0, 1, 0, 0},
		{"CIf (OAnd (OLt (OFeed a 0, 1), OLt (2, OFeed a 0)), COne EUR, CZero)", 2, 0, 1, 0, 0},
		{"CIf (OOr (OLt (OFeed a 0, 1), OOr (OLt (2, OFeed b 0), OLt (3, OFeed b 0))), COne EUR, CZero)", 3, 0, 2, 0, 0},
		{"CWhen 9 (OAnd (OLt (OFeed a 0, 1), OLt (OFeed a 0, 1)), COne EUR)", 2, 0, 1, 0, 0},
		{"CScale (OFeed a 0, CScale (OFeed a 0, COne EUR))", 2, 0, 2, 0, 0},
	} {
		without, with := compiled(t, read(test.c), 0), compiled(t, read(test.c), api.PassShare)
		if count(without, api.IFeed) != test.feeds || count(without, api.IMul) != test.muls || count(with, api.IFeed) != test.sharedFeeds || count(with, api.IMul) != test.sharedMuls {
			t.Errorf("%s: %v, %v", test.c, without, with)
		}
		if gen.Fuel(with) > gen.Fuel(without) {
			t.Errorf("%s: %v, %v", test.c, without, with)
		}
	}
}

// P17.1: parts that are reckoned on one way of two are not taken on another one.
func TestShareOnWays(t *testing.T) {
	g := newGrower(177)
	for _, text := range []string{
		"OAdd (OIf (OLt (OFeed a 0, 1), OMul (OFeed b 0, 2), OFeed b 0), OAdd (OMul (OFeed b 0, 2), OFeed b 0))",
		"OAdd (OIf (OAnd (OLt (OFeed a 0, 1000000), OLt (OFeed b 0, OMul (OFeed b 0, 3))), OMul (OFeed b 0, 3), OFeed eur 0), OMul (OFeed b 0, 3))",
		"OIf (OOr (OLt (OFeed a 0, 1000000), OLt (ONeg (OFeed b 0), 5)), OMul (ONeg (OFeed b 0), 1500000), OAdd (ONeg (OFeed b 0), ONeg (OFeed b 0)))",
		"OAdd (OIf (OLt (OFeed a 0, 1000000), OIf (OLt (OFeed b 0, 1000000), ONeg (OFeed eur 0), ONeg (OFeed a 0)), ONeg (OFeed b 0)), OAdd (ONeg (OFeed eur 0), OAdd (ONeg (OFeed a 0), ONeg (OFeed b 0))))",
		"OIf (OEq (OIf (OLt (OFeed a 0, 1), OFeed a 0, OFeed b 0), OIf (OLt (OFeed a 0, 1), OFeed a 0, OFeed b 0)), OIf (OLt (OFeed a 0, 1), OFeed a 0, OFeed b 0), 3)",
	} {
		for _, passes := range []int{0, 8, 15} {
			l := newLife(t, readWith("CScale (x, COne EUR)", map[string]api.Core{"x": read(text)}), passes)
			for range 300 {
				l.begin(g.day(), g.feeds())
			}
			if l.paid < 50 {
				t.Error(text, l.paid)
			}
		}
	}
}

// sums is an observable in which so many parts stand twice, as flat as it can be: their sums with a number each.
func sums(from, to int, leaf string) api.Core {
	if to-from == 1 {
		return read(fmt.Sprintf(leaf, from))
	}
	half := (from + to) / 2
	return api.Core{Op: api.OAdd, Kids: []api.Core{sums(from, half, leaf), sums(half, to, leaf)}}
}

// P17.1: more alike parts than registers can hold.
func TestShareMore(t *testing.T) {
	g := newGrower(178)
	for _, many := range []int{1, 10, 55, 56, 57, 58, 100, 150} {
		half := sums(0, many, "OMul (OFeed a 0, ONum %d000000)")
		c := api.Core{Op: api.CScale, Kids: []api.Core{{Op: api.OAdd, Kids: []api.Core{half, sums(0, many, "OMul (OFeed a 0, ONum -%d000000)")}}, read("COne EUR")}}
		twice := api.Core{Op: api.CScale, Kids: []api.Core{{Op: api.OSub, Kids: []api.Core{sums(0, many, "OMul (OFeed a 0, ONum %d500000)"), {Op: api.OMul, Kids: []api.Core{read("ONum 500000"), sums(0, many, "OMul (OFeed a 0, ONum %d500000)")}}}}, read("COne EUR")}}
		mixed := api.Core{Op: api.CScale, Kids: []api.Core{{Op: api.OMul, Kids: []api.Core{half, sums(0, many, "ODiv (OFeed b 0, OMul (OFeed a 0, ONum %d000000))")}}, read("COne EUR")}}
		for _, one := range []api.Core{c, twice, mixed} {
			for passes := range 16 {
				l := newLife(t, one, passes)
				l.begin(9, []api.Feed{{Name: "a", Stamps: []api.Stamp{{N: 3000000}}}, {Name: "b", Stamps: []api.Stamp{{N: 7000000}}}})
				for range 10 {
					l.begin(g.day(), g.feeds())
				}
			}
		}
	}
}

// P17.1: more alike parts than registers can hold, and as deep as may be.
func TestShareMoreDeep(t *testing.T) {
	g := newGrower(188)
	for _, levels := range []int{50, 150, 190, 196} {
		plus, minus := read("OFeed b 0"), read("OFeed b 0")
		for i := range levels {
			letters := map[string]api.Core{"p": plus, "m": minus, "n": {Op: api.ONum, N: int64(i+1) * 1500000}}
			plus, minus = readWith("OAdd (OMul (OFeed a 0, n), p)", letters), readWith("OSub (m, OMul (OFeed a 0, n))", letters)
		}
		c := readWith("CScale (OSub (p, m), COne EUR)", map[string]api.Core{"p": plus, "m": minus})
		for passes := range 16 {
			l := newLife(t, c, passes)
			for range 10 {
				l.begin(g.day(), g.feeds())
			}
			if l.paid == 0 {
				t.Error(levels, passes)
			}
		}
	}
}

// P17.1: without alike parts PassShare makes nothing else.
func TestShareNothing(t *testing.T) {
	for _, text := range []string{
		"CScale (OAdd (OFeed a 0, OMul (OFeed b 0, OFeed a 1)), COne EUR)", "CIf (OOr (OLt (1, OFeed a 0), OAnd (true, OBefore (ONow 0, ODate 3))), COne EUR, CZero)", "CBoth (CScale (2, COne EUR), CScale (2, COne USD))", "CWhen 9 (OLt (OIf (true, 5, OYears (ONow 0, ODate 1)), 7), CScale (OFeed a 0, COne EUR))",
	} {
		if without, with := compiled(t, read(text), 0), compiled(t, read(text), api.PassShare); !alike(without, with) {
			t.Errorf("%s: %v, %v", text, without, with)
		}
	}
}

// deepest is a contract that has as many of a shape about each other as it may.
func deepest(about, bottom string) api.Core {
	for times := 199; ; times-- {
		c := nest(times, about, bottom)
		if c.Op < api.CZero {
			c = readWith("CScale (x, COne EUR)", map[string]api.Core{"x": c})
		}
		if depth(c) <= 200 && len(flat(c)) <= 2000 {
			return c
		}
	}
}

// P17.1: terms as deep as they may be, on each side, with alike parts in them.
func TestDeep(t *testing.T) {
	g := newGrower(179)
	for _, test := range []struct {
		waits         bool
		about, bottom string
	}{
		{false, "CGive (x)", "COne EUR"}, {false, "CBoth (x, COne USD)", "COne EUR"}, {false, "CBoth (COne USD, x)", "COne EUR"}, {false, "CIf (OBefore (ONow 0, ODate 9), x, COne EUR)", "CZero"}, {false, "CBoth (CGive (COne USD), CBoth (x, COne GBP))", "CZero"}, {false, "CScale (OYears (ONow 0, ODate 9), x)", "COne EUR"},
		{true, "CAt 5 (x)", "COne EUR"}, {true, "CScale (OFeed a 0, x)", "COne EUR"}, {true, "CWhen 9 (OLt (1, OFeed a 0), x)", "COne EUR"}, {true, "CPick 9 a (COne EUR, x)", "CZero"}, {true, "CPick 9 a (x, COne EUR)", "CZero"}, {true, "CBoth (x, CScale (OAdd (OFeed a 0, OFeed a 0), COne USD))", "COne EUR"},
		{false, "OAdd (OFeed a 0, x)", "OFeed b 0"}, {false, "OAdd (x, OFeed a 0)", "OFeed b 0"}, {false, "ONeg (x)", "OFeed b 0"}, {false, "OSub (ONum 7, x)", "OFeed b 0"}, {false, "OIf (OLt (OFeed a 0, 1), x, OFeed a 0)", "OFeed b 0"}, {false, "OIf (OLt (OFeed a 0, 1), OFeed a 0, x)", "OFeed b 0"}, {false, "OIf (OLt (x, 1), OFeed a 0, OFeed b 0)", "OFeed b 0"},
		{false, "OAdd (OMul (OFeed a 0, OFeed b 0), OIf (OLt (OFeed b 0, OMul (OFeed a 0, OFeed b 0)), x, ONeg (OFeed eur 0)))", "OFeed a 0"},
	} {
		c := deepest(test.about, test.bottom)
		if depth(c) < 198 || len(waiters(c)) > 1 != test.waits {
			t.Error(test, depth(c), len(waiters(c)))
		}
		for passes := range 16 {
			l := newLife(t, c, passes)
			for range 5 {
				on, f := int(g.small()), g.feeds()
				l.begin(on, f)
				l.step(on+3, g.more(f), g.choice())
			}
		}
	}
}

// P17.1: observables as deep as they may be within contracts that are deep themselves.
func TestDeepWithin(t *testing.T) {
	g := newGrower(180)
	for _, above := range []int{0, 1, 50, 99, 100, 150, 190, 196, 197} {
		for _, shapes := range [][2]string{{"CBoth (x, COne USD)", "OAdd (OYears (ONow 0, ODate 3), x)"}, {"CScale (1000000, x)", "OSub (x, OYears (ONow 0, ODate 3))"}, {"CBoth (x, COne USD)", "OAdd (500000, x)"}, {"CBoth (x, COne USD)", "OMul (x, OMul (500000, 2000000))"}} {
			times := 198 - above
			c := nest(times, shapes[1], "5000000")
			for depth(c) > 199-above {
				times--
				c = nest(times, shapes[1], "5000000")
			}
			c = readWith("CScale (x, COne EUR)", map[string]api.Core{"x": c})
			for range above {
				c = readWith(shapes[0], map[string]api.Core{"x": c})
			}
			if depth(c) < 198 {
				t.Fatal(above, shapes, depth(c))
			}
			for _, passes := range []int{0, 8, 6, 15} {
				l := newLife(t, c, passes)
				l.begin(g.day(), g.feeds())
				if l.paid == 0 {
					t.Error(above, shapes)
				}
			}
		}
	}
}

// P17.1: which registers are used is no more than are said, and each is laid ahead of being read.
func TestRegisters(t *testing.T) {
	g := newGrower(181)
	for i := range 400 {
		code := compiled(t, g.contract(3, 200), i%16)
		most := 0
		for _, in := range code.Ins {
			most = max(most, in.A, in.B, in.C)
		}
		if code.Regs > most+1 {
			t.Fatal(code)
		}
	}
	for _, test := range []struct {
		c       string
		regs    int
		sharing int
	}{
		{"COne EUR", 0, 0}, {"CAt 9 (CGive (COne EUR))", 0, 0}, {"CBoth (COne EUR, COne USD)", 1, 1}, {"CScale (OFeed a 0, COne EUR)", 1, 1}, {"CScale (OAdd (OFeed a 0, OFeed b 0), COne EUR)", 2, 2}, {"CScale (OAdd (OAdd (OFeed a 0, 1), OFeed b 0), COne EUR)", 2, 2}, {"CScale (OAdd (1, OAdd (OFeed a 0, 2)), COne EUR)", 3, 3}, {"CScale (OSub (OMul (OFeed a 0, 2), OMul (OFeed a 0, 2)), COne EUR)", 3, 3},
	} {
		if one, two := compiled(t, read(test.c), 0), compiled(t, read(test.c), 8); one.Regs != test.regs || two.Regs != test.sharing {
			t.Errorf("%s: %v, %v", test.c, one, two)
		}
	}
}
