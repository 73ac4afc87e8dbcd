package elab_test

import (
	"math"
	"testing"

	"usance/api"
)

// P13.1: arguments as terms, at the edges of what they may be.
func TestArguments(t *testing.T) {
	observes(t, "p", "ONum 1000000000000000", number(api.MaxNum))
	observes(t, "p", "ONum -1000000000000000", number(-api.MaxNum))
	observes(t, "p", "ONum 0", number(0))
	observes(t, "if p then 1 else 2", "OIf (OBool 0, ONum 1000000, ONum 2000000)", truth(0))
	observes(t, "if p then 1 else 2", "OIf (OBool 1, ONum 1000000, ONum 2000000)", truth(1))
	observes(t, "years(p, q)", "OYears (ODate 0, ODate 73048)", day(0), day(api.MaxDay))
	becomes(t, "let f(c, d) = both(one(c), one(d));", "CBoth (COne AAA, COne ZZZ)", currency("AAA"), currency("ZZZ"))
	becomes(t, "let f(b, x, y) = one(if b then x else y);", "COne GBP", truth(0), currency("EUR"), currency("GBP"))
	becomes(t, "let f(d, n, k) = at(plus(d, n), ago(k, scale(feed \"a\", zero)));", "CAt 8 (CScale (OFeed a 3, CZero))", day(5), number(3999999), number(3000000))
}

// P13.1: ErrElabArgs: not as many, not right, not of the type.
func TestNoArguments(t *testing.T) {
	right := map[int]api.Val{api.TNum: number(5), api.TBool: truth(1), api.TDate: day(5), api.TCur: currency("EUR")}
	rows := map[int]string{
		api.TNum: "let f(x) = scale(x, zero);", api.TBool: "let f(x) = if x then zero else zero;", api.TDate: "let f(x) = when(2000-01-01, before(x, x), zero);",
		api.TCur: "let f(x) = one(x);", api.TContract: "let f(x) = give(x);", api.TVar: "let f(x) = zero;",
	}
	wrong := []api.Val{
		number(api.MaxNum + 1), number(-api.MaxNum - 1), number(math.MaxInt64), number(math.MinInt64), {Type: api.TNum, S: "EUR"}, {Type: api.TNum, N: 1, S: "x"},
		truth(2), truth(-1), truth(math.MinInt64), {Type: api.TBool, N: 1, S: "EUR"},
		day(-1), day(api.MaxDay + 1), day(math.MaxInt64), {Type: api.TDate, N: 1, S: "EUR"},
		currency(""), currency("EU"), currency("EURO"), currency("eur"), currency("EUr"), currency("eUR"), currency("E1R"), currency("EU["), currency("@UR"), currency("É1"), currency("EUR\x00"), {Type: api.TCur, N: 1, S: "EUR"}, {Type: api.TCur, N: -1, S: "EUR"},
		{Type: api.TContract}, {Type: api.TContract, S: "EUR"}, {Type: api.TVar}, {Type: api.TVar + 1}, {Type: -1}, {Type: math.MaxInt}, {Type: math.MinInt, N: 1},
	}
	for want, row := range rows {
		mods := parsed(t, "module m; "+row)
		for is, a := range right {
			if got := answer(t, mods, "f", a); (got == "args") == (is == want || want == api.TVar) {
				t.Errorf("%s of %v: %s", row, a, got)
			}
			for _, l := range [][]api.Val{nil, {}, {a, a}, make([]api.Val, 9)} {
				if got := answer(t, mods, "f", l...); got != "args" {
					t.Errorf("%s of %v: %s", row, l, got)
				}
			}
		}
		for _, a := range wrong {
			if got := answer(t, mods, "f", a); got != "args" {
				t.Errorf("%s of %v: %s", row, a, got)
			}
		}
	}
	becomes(t, "let f = zero;", "args", number(1))
	becomes(t, "let f = zero;", "args", make([]api.Val, 1<<20)...)
	becomes(t, "let f(x, y) = scale(x, one(y));", "args", currency("EUR"), number(1))
	becomes(t, "let f(x, y) = scale(x, one(y));", "args", number(1), currency("EUr"))
	becomes(t, "let f(x, y) = scale(x, one(y));", "CScale (ONum 1, COne EUR)", number(1), currency("EUR"))
}

// P13.1: arguments of which the parameters' types are one variable are of one type.
func TestOneVariable(t *testing.T) {
	all := []api.Val{number(0), truth(0), day(0), currency("EUR")}
	mods := parsed(t, "module m; let same(x, y) = if true then x else y; let drop(x, y) = x; let f(a, b, c) = drop(zero, drop(same(a, c), b)); let g(a, b, c) = drop(zero, drop(same(a, 1), same(b, c)));")
	for _, a := range all {
		for _, b := range all {
			for _, c := range all {
				want := "args"
				if a.Type == c.Type {
					want = "CZero"
				}
				if a.Type == api.TCur && c.Type == api.TCur {
					c.S = "USD" // another one of the type
				}
				if got := answer(t, mods, "f", a, b, c); got != want {
					t.Errorf("f(%v, %v, %v): %s, want %s", a, b, c, got, want)
				}
				want = "args"
				if a.Type == api.TNum && b.Type == c.Type {
					want = "CZero"
				}
				if got := answer(t, mods, "g", a, b, c); got != want {
					t.Errorf("g(%v, %v, %v): %s, want %s", a, b, c, got, want)
				}
			}
		}
	}
	bad := api.Val{Type: api.TContract}
	for _, l := range [][]api.Val{{bad, all[0], bad}, {bad, bad, bad}, {all[0], bad, all[0]}, {{Type: -1}, all[0], {Type: -1}}} {
		if got := answer(t, mods, "f", l...); got != "args" {
			t.Errorf("f(%v): %s", l, got)
		}
	}
}
