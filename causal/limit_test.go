package causal_test

import (
	"fmt"
	"testing"

	"usance/api"
	"usance/causal"
)

// wide is a number of so many terms, as flat as it can be.
func wide(terms int) api.Core {
	switch terms {
	case 1:
		return number(1)
	case 2:
		return of(api.ONeg, number(1))
	}
	return of(api.OAdd, wide((terms-1)/2), wide(terms-1-(terms-1)/2))
}

// deep is a bottom, with terms of one kid about it, so many in all.
func deep(terms, op int, bottom api.Core) api.Core {
	for range terms - 1 {
		bottom = of(op, bottom)
	}
	return bottom
}

// combed is a contract of an odd count of terms, each CBoth's second kid the next one.
func combed(terms int) api.Core {
	out := zero()
	for count := 1; count < terms; count += 2 {
		out = both(zero(), out)
	}
	return out
}

// measure is how many terms a core has, and how deep it is.
func measure(c api.Core) (int, int) {
	size, depth := 1, 0
	for _, kid := range c.Kids {
		s, d := measure(kid)
		size, depth = size+s, max(depth, d)
	}
	return size, depth + 1
}

// edge checks a core that is right but perhaps for its size or its depth.
func edge(t *testing.T, c api.Core, kind int) {
	t.Helper()
	size, depth := measure(c)
	got := ask(c)
	if size > 2000 || depth > 200 {
		if got != nothing() {
			t.Errorf("%d terms, depth %d: %v", size, depth, got)
		}
		return
	}
	if got.kind != kind || !got.right || got.size != size || (got.check == api.OK) != (kind == api.TContract) {
		t.Errorf("%d terms, depth %d: %v", size, depth, got)
	}
}

// P14.1, P14.2: at most 2000 terms.
func TestTerms(t *testing.T) {
	for _, more := range []int{-2, -1, 0, 1, 2, 1000, 100000} {
		if size, _ := measure(wide(2000 + more)); size != 2000+more {
			t.Fatal(size)
		}
		edge(t, wide(2000+more), api.TNum)
		edge(t, of(api.OLt, wide(1000+more), wide(999)), api.TBool)
		edge(t, of(api.OPlus, now(0), wide(1998+more)), api.TDate)
		edge(t, scale(wide(1998+more), zero()), api.TContract)
		edge(t, scale(number(1), scale(wide(1996+more), zero())), api.TContract)
		edge(t, both(scale(wide(997), zero()), scale(wide(998+more), zero())), api.TContract)
		edge(t, both(scale(wide(998+more), zero()), scale(wide(997), zero())), api.TContract)
		edge(t, when(9, of(api.OLt, wide(1995+more), number(1)), give(zero())), api.TContract)
		edge(t, of(api.OIf, of(api.OLe, wide(998), number(1)), wide(500), wide(499+more)), api.TNum)
	}
}

// P14.1, P14.2: a depth of at most 200.
func TestDepth(t *testing.T) {
	for _, more := range []int{-2, -1, 0, 1, 2, 1000} {
		edge(t, deep(200+more, api.CGive, zero()), api.TContract)
		edge(t, deep(200+more, api.ONeg, number(1)), api.TNum)
		edge(t, deep(200+more, api.ONot, truth(1)), api.TBool)
		edge(t, scale(deep(199+more, api.ONeg, feed("a", 0)), zero()), api.TContract)
		edge(t, both(zero(), deep(199+more, api.CGive, one("EUR"))), api.TContract)
		edge(t, both(deep(199+more, api.CGive, one("EUR")), zero()), api.TContract)
		edge(t, deep(100, api.CGive, scale(deep(100+more, api.ONeg, number(1)), zero())), api.TContract)
		edge(t, combed(2*(200+more)-1), api.TContract)
		edge(t, of(api.CIf, deep(199+more, api.ONot, truth(0)), deep(199, api.CGive, zero()), zero()), api.TContract)
		branches := now(0)
		for range 199 + more {
			branches = of(api.OIf, truth(1), branches, day(3))
		}
		edge(t, branches, api.TDate)
		for range 199 + more {
			branches = of(api.OIf, truth(1), day(3), branches)
		}
		edge(t, branches, api.TDate)
	}
	deepest := deep(198, api.CGive, zero())
	for _, c := range []api.Core{both(deepest, both(deepest, deepest)), both(both(deepest, deepest), deepest)} {
		edge(t, c, api.TContract)
		edge(t, give(c), api.TContract)
	}
}

// around is a term that is its own kid, so many times.
func around(op int, n int64, s string, times int) api.Core {
	kids := make([]api.Core, times)
	for i := range kids {
		kids[i] = term(op, n, s, kids...)
	}
	for i := range kids {
		kids[i].Kids = kids
	}
	return kids[0]
}

// R1: terms that go round in themselves are none, and are told so at once.
func TestAround(t *testing.T) {
	for op := range api.CPick + 2 {
		for times := range 4 {
			says(t, around(op, 0, ownS(op), times+1), nothing())
		}
	}
	loop := []api.Core{truth(1), {}, {}}
	loop[1], loop[2] = of(api.OIf, loop...), of(api.OIf, loop...)
	loop[1].Kids, loop[2].Kids = loop, loop
	for _, c := range []api.Core{loop[1], of(api.ONeg, loop[1]), scale(loop[2], zero()), of(api.CIf, loop[1], zero(), zero())} {
		says(t, c, nothing())
	}
}

// R1: terms that share their kids have more terms than memory would hold, and are none.
func TestShared(t *testing.T) {
	c, n, b := zero(), number(1), truth(1)
	for i := range 3000 {
		c, n, b = both(c, c), of(api.OMul, n, n), of(api.OIf, b, b, b)
		size := 1<<min(i+2, 40) - 1
		for k, shared := range map[int]api.Core{api.TContract: c, api.TNum: n} {
			got := ask(shared)
			if size > 2000 && got != nothing() || size <= 2000 && (got.size != size || got.kind != k || !got.right) {
				t.Fatalf("%d: %v", i, got)
			}
		}
		if _, right := causal.Type(b); right != (i < 6) { // (3^(i+2) - 1) / 2 terms
			t.Fatalf("%d: %v", i, right)
		}
	}
}

// R1: many kids, and terms of a depth that the bound allows.
func TestGreat(t *testing.T) {
	many := make([]api.Core, 1<<20)
	for i := range many {
		many[i] = zero()
	}
	for op := range api.CPick + 2 {
		says(t, term(op, 0, ownS(op), many...), nothing())
	}
	says(t, both(zero(), give(of(api.CBoth, many...))), nothing())
	for _, c := range []api.Core{deep(1<<16, api.CGive, zero()), deep(1<<16, api.ONeg, number(1)), deep(1<<16, 0, api.Core{}), combed(1<<17 - 1)} {
		says(t, c, nothing())
	}
	says(t, feed(fmt.Sprintf("a%01048576d", 0), 0), nothing())
}
