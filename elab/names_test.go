package elab_test

import (
	"strings"
	"testing"

	"usance/api"
)

// P13.1: what names mean: a parameter, else a definition, else what is built in.
func TestNames(t *testing.T) {
	becomes(t, "let f(now) = at(now, zero);", "CAt 7 (CZero)", day(7))
	becomes(t, "let g(zero) = one(zero); let f = both(zero, g(EUR));", "CBoth (CZero, COne EUR)")
	becomes(t, "let g = one(EUR); let h(g) = scale(g, one(USD)); let f = both(g, h(1));", "CBoth (COne EUR, CScale (ONum 1000000, COne USD))")
	becomes(t, "let f(f) = one(f);", "COne GBP", currency("GBP"))
	becomes(t, "let m = one(EUR); let f(f, one) = if f then m else give(m);", "CIf (OBool 0, COne EUR, CGive (COne EUR))", truth(0), number(2))
	becomes(t, "let g(x, y) = x - y; let f(x, y) = scale(g(y, x), zero);", "CScale (OSub (ONum 5, ONum 3), CZero)", number(3), number(5))
	becomes(t, "let g(x) = scale(x, zero); let h(y) = both(g(y), g(1)); let f(x) = h(x + x);",
		"CBoth (CScale (OAdd (ONum 3, ONum 3), CZero), CScale (ONum 1000000, CZero))", number(3))
	becomes(t, "let g(a, b, c, d, e, f, g, h) = scale(a - b - c - d - e - f - g - h, zero); let f = g(8, 7, 6, 5, 4, 3, 2, 1);",
		"CScale (OSub (OSub (OSub (OSub (OSub (OSub (OSub (ONum 8000000, ONum 7000000), ONum 6000000), ONum 5000000), ONum 4000000), ONum 3000000), ONum 2000000), ONum 1000000), CZero)")
	becomes(t, "let first(x, y) = x; let second(x, y) = y; let f = first(second(now, one(first(EUR, 1))), second);", "form")
	becomes(t, "let first(x, y) = x; let second(x, y) = y; let f = first(second(now, one(first(EUR, 1))), second(true, 1));", "COne EUR")
}

// P13.1: far names, and near ones of other modules.
func TestFarNames(t *testing.T) {
	mods := parsed(t,
		`module a; let x = 1; let g = scale(x, zero); let pay(n) = scale(n + x, one(EUR));`,
		`module b; import a; let x = 2; let g = both(a.g, scale(x, zero)); let a = one(USD); let pay(x) = a.pay(x + a.x);`,
		`module c; let x = 3; let g = scale(x, zero);`,
		`module d; import c; import b; let x(a) = b.pay(a); let g = both(b.g, c.g); let f(x, b) = both(b.a, scale(x + c.x, zero)); let h = b.x;`)
	for entry, want := range map[string]string{
		"a.g": "CScale (ONum 1000000, CZero)",
		"b.g": "CBoth (CScale (ONum 1000000, CZero), CScale (ONum 2000000, CZero))",
		"c.g": "CScale (ONum 3000000, CZero)",
		"d.g": "CBoth (CBoth (CScale (ONum 1000000, CZero), CScale (ONum 2000000, CZero)), CScale (ONum 3000000, CZero))",
		"g":   "CBoth (CBoth (CScale (ONum 1000000, CZero), CScale (ONum 2000000, CZero)), CScale (ONum 3000000, CZero))",
		"b.a": "COne USD", "a": "entry", "pay": "entry", "h": "entry", "b.x": "entry", "a.b": "entry", "e.g": "entry", "x": "args", "d.x": "args", "b.pay": "args",
	} {
		if got := answer(t, mods, entry); got != want {
			t.Errorf("%s: %s, want %s", entry, got, want)
		}
	}
	for entry, want := range map[string]string{
		"x":     "CScale (OAdd (OAdd (ONum 7, ONum 1000000), ONum 1000000), COne EUR)",
		"b.pay": "CScale (OAdd (OAdd (ONum 7, ONum 1000000), ONum 1000000), COne EUR)",
		"a.pay": "CScale (OAdd (ONum 7, ONum 1000000), COne EUR)", "pay": "entry", "c.pay": "entry", "g": "args",
	} {
		if got := answer(t, mods, entry, number(7)); got != want {
			t.Errorf("%s of a number: %s, want %s", entry, got, want)
		}
	}
	if got := answer(t, mods, "f", number(7), truth(0)); got != "CBoth (COne USD, CScale (OAdd (ONum 7, ONum 3000000), CZero))" {
		t.Error(got)
	}
}

// P13.1: what is no entry: no definition, one that makes no contract, other texts.
func TestEntries(t *testing.T) {
	mods := parsed(t, `module a; let only = zero;`, `module m; import a; let n = 1; let b = true; let d = now; let c = EUR; let same(x) = x; let late(x) = ago(1, x); let choose(b, x, y) = if b then x else y; let f = zero; let g(x) = a.only;`)
	long := strings.Repeat("x", 1<<20)
	for _, entry := range []string{"", ".", "m", "m.", ".f", "m.f.", "m..f", "m.m.f", "f.m", "f.f", "F", "f ", " f", "m. f", "f\x00", "only", "a", "zero", "now", "one", "m.zero", "a.zero", "x", "if", "é", long, "m." + long, long + ".f", "n", "b", "d", "c", "m.n", "same", "late", "choose"} {
		for _, args := range [][]api.Val{nil, {number(1)}, {truth(1), currency("EUR"), currency("EUR")}, {{Type: api.TContract}}} {
			if got := answer(t, mods, entry, args...); got != "entry" {
				t.Errorf("%.40s: %s", entry, got)
			}
		}
	}
	for entry, want := range map[string]string{"f": "CZero", "m.f": "CZero", "a.only": "CZero", "g": "args", "m.g": "args"} {
		if got := answer(t, mods, entry); got != want {
			t.Errorf("%s: %s, want %s", entry, got, want)
		}
	}
	for _, a := range []api.Val{number(1), truth(1), day(1), currency("EUR")} {
		if got := answer(t, mods, "g", a); got != "CZero" {
			t.Errorf("g(%v): %s", a, got)
		}
	}
}
