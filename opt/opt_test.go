package opt_test

import (
	"fmt"
	"testing"

	"usance/api"
	"usance/causal"
	"usance/elab"
	"usance/opt"
	"usance/syntax"
)

// done is what comes of a contract.
func done(t *testing.T, c api.Core, passes int) api.Core {
	t.Helper()
	d, e := opt.Do(c, passes)
	if e != api.OK {
		t.Fatalf("%.500s, %d: %v", fmt.Sprint(c), passes, e)
	}
	return d
}

// about is a contract with a term in it, and the places that lead to that one. Whatever it becomes, no rule fits what stands about it.
func about(c api.Core) (api.Core, []int) {
	kind, _ := causal.Type(c)
	shape, places := "c", []int{}
	switch kind {
	case api.TNum:
		shape, places = "CIf (OLt (c, OFeed around 3), COne EUR, COne USD)", []int{0, 0}
	case api.TBool:
		shape, places = "CWhen 9 (c, CZero)", []int{0}
	case api.TDate:
		shape, places = "CIf (OBefore (ONow 3, c), COne EUR, COne USD)", []int{0, 1}
	}
	return put{terms: map[string]api.Core{"c": c}}.in(read(shape)), places
}

// becomes checks what a term comes to, as a contract, or within one.
func becomes(t *testing.T, c api.Core, passes int, want api.Core) {
	t.Helper()
	whole, places := about(c)
	got := done(t, whole, passes)
	for _, place := range places {
		if place >= len(got.Kids) {
			t.Errorf("%v, %d: %v", whole, passes, got)
			return
		}
		got = got.Kids[place]
	}
	if !same(got, want) {
		t.Errorf("%v, %d: %v, want %v", c, passes, got, want)
	}
}

// says is becomes, of texts.
func says(t *testing.T, c string, passes int, want string) {
	t.Helper()
	becomes(t, read(c), passes, read(want))
}

// P16.1: the chapter's examples.
func TestExamples(t *testing.T) {
	c := "CScale (OAdd (ONum 400000, ONum 600000), COne EUR)"
	says(t, c, 3, "COne EUR")
	says(t, c, 1, "CScale (ONum 1000000, COne EUR)")
	says(t, c, 2, c)
	says(t, "CBoth (CIf (OLt (ONum 1, ONum 2), COne EUR, CZero), CGive (CZero))", 7, "COne EUR")
	says(t, "CAt 5 (CAt 9 (CGive (CGive (COne EUR))))", 2, "CAt 9 (COne EUR)")
	if d, e := opt.Do(read("CZero"), 16); e != api.ErrOptForm || !same(d, api.Core{}) {
		t.Error(d, e)
	}
}

// made is the contract that a text says.
func made(t *testing.T, rows string) api.Core {
	t.Helper()
	m, at, e := syntax.Module("module m; " + rows)
	if e != api.OK {
		t.Fatal(rows, at, e)
	}
	c, e := elab.Term([]api.Node{m}, "f", nil)
	if e != api.OK {
		t.Fatal(rows, e)
	}
	return c
}

// P16.1: contracts that are written as texts.
func TestTexts(t *testing.T) {
	for _, test := range []struct {
		rows   string
		passes int
		want   string
	}{
		{`let f = scale(0.4 + 0.6, one(EUR));`, 15, "COne EUR"},
		{`let f = scale(0.4 + 0.6, one(EUR));`, 0, "CScale (OAdd (ONum 400000, ONum 600000), COne EUR)"},
		{`let f = at(2026-01-31, scale(100, one(EUR)));`, 15, "CAt 46051 (CScale (ONum 100000000, COne EUR))"},
		{`let f = both(one(EUR), give(one(USD)));`, 15, "CBoth (COne EUR, CGive (COne USD))"},
		{`let f = when(2026-01-31, feed "eur" < 1 + 2 * 3, one(USD));`, 1, "CWhen 46051 (OLt (OFeed eur 0, ONum 7000000), COne USD)"},
		{`let f = pick "ex"(2026-01-31, scale(1 * feed "gas" / 1, one(EUR)), give(zero));`, 2, "CPick 46051 ex (CScale (OFeed gas 0, COne EUR), CZero)"},
		{`let later(n, c) = at(plus(2026-01-31, n), c); let f = later(-1, later(3, later(2, give(give(one(EUR))))));`, 2, "CAt 46054 (COne EUR)"},
		{`let f = if before(2026-01-31, months(2026-01-31, 1)) and not false then one(EUR) else one(USD);`, 7, "COne EUR"},
		{`let f = if years(2025-01-31, 2026-01-31) = 1 then scale(-(-(feed "eur")), one(EUR)) else zero;`, 7, "CScale (OFeed eur 0, COne EUR)"},
		{`let f = when(2026-01-31, 2 < 1, both(one(EUR), one(USD)));`, 5, "CWhen 46051 (false, CZero)"},
	} {
		becomes(t, made(t, test.rows), test.passes, read(test.want))
	}
}
