package elab_test

import (
	"fmt"
	"slices"
	"testing"

	"usance/api"
	"usance/elab"
)

// modules are so many, m0, m1, .., each of which has the contract f.
func modules(t *testing.T, count int) []api.Node {
	t.Helper()
	var texts []string
	for i := range count {
		texts = append(texts, fmt.Sprintf("module m%d; let f = zero;", i))
	}
	return parsed(t, texts...)
}

// isForm: is it no program, whatever is asked?
func isForm(t *testing.T, what string, mods []api.Node) {
	t.Helper()
	for _, entry := range []string{"", "f", "m.f", "m0.f", "zero"} {
		for _, args := range [][]api.Val{nil, {{Type: 7}}, {number(1)}} {
			if got := answer(t, mods, entry, args...); got != "form" {
				t.Errorf("%s, %s: %s", what, entry, got)
			}
		}
	}
}

// P13.1: ErrElabForm: not 1 to 16 modules, two of one name.
func TestHowMany(t *testing.T) {
	isForm(t, "none", nil)
	isForm(t, "none", []api.Node{})
	for _, count := range []int{1, 2, 15, 16} {
		if got := answer(t, modules(t, count), "f"); got != "CZero" {
			t.Errorf("%d: %s", count, got)
		}
	}
	isForm(t, "17", modules(t, 17))
	isForm(t, "many", make([]api.Node, 1<<20))
	for first := range 4 {
		for second := range 4 {
			mods := modules(t, 4)
			mods[second].Text = mods[first].Text
			if first != second {
				isForm(t, fmt.Sprint(first, second, " of one name"), mods)
			}
		}
	}
	isForm(t, "one twice", slices.Repeat(modules(t, 1), 2))
}

// P13.1: ErrElabForm: modules that have no types with the sheets of those ahead.
func TestTypes(t *testing.T) {
	for _, texts := range [][]string{
		{"module m; let f = 1 + true;"}, {"module m; let f = g;"}, {"module m; let f = one;"}, {"module m; let f = zero; let f = zero;"}, {"module m; let now = zero;"}, {"module m; let f(x, x) = zero;"},
		{"module m; import m; let f = zero;"}, {"module m; import n; let f = zero;"}, {"module m; import n; let f = zero;", "module n; let f = zero;"}, {"module n; let g = 1;", "module m; let f = scale(n.g, zero);"},
		{"module n; let g = 1;", "module m; import n; let f = scale(n.h, zero);"}, {"module n; let g = 1;", "module m; import n; let f = at(n.g, zero);"}, {"module n; let g = 1;", "module m; import n; import n; let f = zero;"},
		{"module m; let f = zero;", "module n; let g = 1 + true;"}, {"module n; let g = 1 + true;", "module m; let f = zero;"}, {"module m; let f = zero; let g(x) = one(x) + 1;"}, {"module m; let f = f;"}, {"module m; let f = g; let g = zero;"}, {"module m; let f = m.f;"}, {"module m; let g = zero; let f = m.g;"},
		{"module a; let g = zero;", "module b; import a; let h = a.g;", "module m; import b; let f = a.g;"}, {"module a; let g = zero;", "module b; import a;", "module m; import b; let f = b.g;"},
	} {
		isForm(t, fmt.Sprint(texts), parsed(t, texts...))
	}
	for _, texts := range [][]string{{"module m; let f = zero;", "module n;"}, {"module m; let f = zero;", "module n; import m;"}, {"module m;", "module n; import m; let f = zero;"}} {
		mods := parsed(t, texts...)
		if got := answer(t, mods, "g"); got != "entry" {
			t.Errorf("%v: %s", texts, got)
		}
	}
}

// P13.1, R1: ErrElabForm: trees that are no right modules, and such as go round in themselves.
func TestTrees(t *testing.T) {
	good := node(api.NLet, "f", 0, name("zero"))
	ring := node(api.NUnary, "-", 0, name("a"))
	ring.Kids[0] = ring
	round := node(api.NModule, "m", 0, good)
	round.Kids[0] = round
	many := node(api.NNum, "", 1)
	for range 60 {
		many = node(api.NBinary, "+", 0, many, many)
	}
	for what, n := range map[string]api.Node{
		"nothing": {}, "an expression": name("f"), "a Let": good, "another Kind": {Kind: 99, Text: "m"}, "a keyword": node(api.NModule, "if", 0, good), "no name": node(api.NModule, "", 0, good), "an N": node(api.NModule, "m", 1, good),
		"a Let without an expression": node(api.NModule, "m", 0, node(api.NLet, "f", 0)), "an Import behind": node(api.NModule, "m", 0, good, node(api.NImport, "n", 0)),
		"no number": node(api.NModule, "m", 0, good, node(api.NLet, "g", 0, node(api.NNum, "", -1))), "a Call without kids": node(api.NModule, "m", 0, node(api.NLet, "f", 0, node(api.NCall, "zero", 0))), "a Name with kids": node(api.NModule, "m", 0, node(api.NLet, "f", 0, node(api.NName, "one", 0, node(api.NCur, "EUR", 0)))),
		"a sign": node(api.NModule, "m", 0, node(api.NLet, "f", 0, node(api.NUnary, "+", 0, node(api.NNum, "", 1)))), "a ring": round, "a ring within": node(api.NModule, "m", 0, good, node(api.NLet, "g", 0, ring)), "many nodes": node(api.NModule, "m", 0, good, node(api.NLet, "g", 0, many)),
		"a Let's N": node(api.NModule, "m", 0, node(api.NLet, "f", 1, name("zero"))), "a Param's kids": node(api.NModule, "m", 0, node(api.NLet, "f", 0, node(api.NParam, "x", 0, name("zero")), name("zero"))),
	} {
		isForm(t, what, []api.Node{n})
		isForm(t, what+" ahead", append([]api.Node{n}, modules(t, 2)...))
		isForm(t, what+" behind", append(modules(t, 2), n))
	}
	if got := answer(t, []api.Node{node(api.NModule, "m", 0, good)}, "f"); got != "CZero" {
		t.Error(got)
	}
}

// places are where the lists of a term lie, spare room too.
func places(t *testing.T, c api.Core, seen map[*api.Core]bool) {
	t.Helper()
	whole := c.Kids[:cap(c.Kids)]
	for i := range whole {
		if seen[&whole[i]] {
			t.Fatal("two lists share memory")
		}
		seen[&whole[i]] = true
	}
	for _, kid := range c.Kids {
		places(t, kid, seen)
	}
}

// R2, R3, R4: what is answered is new memory, of which no two lists share any; nothing is written into; it hangs on the arguments alone.
func TestMemory(t *testing.T) {
	text := `module m; let twice(x) = both(x, x); let g(n) = twice(twice(ago(1, scale(n + n, twice(at(2000-01-01, scale(feed "a", zero))))))); let f(n, m) = both(g(n), both(g(n), ago(2, g(m))));`
	mods, args := parsed(t, text), []api.Val{number(1), number(2), number(3)}
	first, e := elab.Term(mods, "f", args[:2])
	if e != api.OK {
		t.Fatal(e)
	}
	seen := map[*api.Core]bool{}
	places(t, first, seen)
	second, _ := elab.Term(mods, "f", args[:2])
	places(t, second, seen)
	before := shown(second)
	var spoil func(c *api.Core)
	spoil = func(c *api.Core) {
		for i := range c.Kids {
			spoil(&c.Kids[i])
		}
		*c = api.Core{Op: 1, N: 77, S: "spoilt"}
	}
	spoil(&first)
	third, _ := elab.Term(mods, "f", args[:2])
	if shown(second) != before || shown(third) != before {
		t.Error("answers share memory")
	}
	if got := parsed(t, text); fmt.Sprint(mods) != fmt.Sprint(got) || !slices.Equal(args, []api.Val{number(1), number(2), number(3)}) {
		t.Error("arguments were written into")
	}
	if got := answer(t, mods, "f", []api.Val{}...); got != "args" {
		t.Error(got)
	}
}
