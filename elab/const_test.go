package elab_test

import (
	"fmt"
	"strings"
	"testing"

	"usance/api"
	"usance/date"
)

// P13.1: which day a constant is.
func TestConstantDays(t *testing.T) {
	for text, want := range map[string]string{
		"1900-01-01": "1900-01-01", "plus(2000-02-28, 1)": "2000-02-29", "plus(2000-02-28, 1.999999)": "2000-02-29", "plus(2000-02-28, 0 - 1.999999)": "2000-02-27", "plus(1900-01-05, -100)": "1900-01-01", "plus(2099-12-01, 1000000000)": "2099-12-31",
		"months(2024-01-31, 1)": "2024-02-29", "months(2024-01-31, -2.5)": "2023-11-30", "months(2024-01-31, 1000000000)": "2099-12-31", "months(plus(2024-01-31, 1), 12)": "2025-02-01",
		"if true then 2024-01-31 else 2025-01-31": "2024-01-31", "if false then 2024-01-31 else 2025-01-31": "2025-01-31", "ago(3660, 2024-01-31)": "2024-01-31",
		"plus(2000-01-01, 1 + 2 * 3 - 4)": "2000-01-04", "plus(2000-01-01, 7 / 2)": "2000-01-04", "plus(2000-01-01, 7 / 0)": "2000-01-01",
		"plus(2000-01-01, -(-5))": "2000-01-06", "plus(2000-01-01, 1000000000 * 1000000000 - 999999990)": "2000-01-11", "plus(2000-01-01, 1 / 3 * 3)": "2000-01-01", "plus(2000-01-01, 2 / 3 * 3)": "2000-01-03",
		"plus(2000-01-01, years(2000-01-01, 2000-12-31))": "2000-01-02", "plus(2000-01-01, years(2000-12-31, 2000-01-01))": "1999-12-31", "plus(2000-01-01, 360 * years30(2000-01-31, 2000-03-31))": "2000-03-01",
		"plus(2000-01-01, 10 * years30(2001-01-31, 2000-01-31))": "1999-12-22",
	} {
		want, e := date.Parse(want)
		if e != api.OK {
			t.Fatal(text, e)
		}
		becomes(t, "let f = at("+text+", zero);", fmt.Sprintf("CAt %d (CZero)", want))
		becomes(t, "let f = when("+text+", true, zero);", fmt.Sprintf("CWhen %d (OBool 1, CZero)", want))
		becomes(t, `let f = pick "p"(`+text+", zero, zero);", fmt.Sprintf("CPick p %d (CZero, CZero)", want))
	}
}

// P13.1: whether a constant is true, told by a currency.
func TestConstantTruths(t *testing.T) {
	const yes, no = "EUR", "USD"
	for want, texts := range map[string]string{
		yes: `true|not false|not (not true)|true and true|true or false|false or true|true or true|1 < 2|1 <= 2|2 <= 2|2 = 2|before(2000-01-01, 2000-01-02)|if true then true else false|if false then false else true
-1 < 0|0.000001 < 0.000002|1 / 0 = 0|1 / 3 = 0.333333|0.5 * 0.000001 = 0|1.5 * 0.000001 = 0.000002|1000000000 + 1 = 1000000000|years(2000-01-01, 2000-12-31) = 1|years30(2000-01-31, 2000-03-31) = 0.166667|1 < 2 and 2 < 3|ago(1, true)
years(2000-01-01, 2001-01-01) = 1.00274|before(plus(2000-01-01, 1), months(2000-01-01, 1))|-1000000000 - 1 = -1000000000|if 2 < 1 then 1 = 2 else 1 = 1|true and not (1 = 2)`,
		no: `false|not true|true and false|false and true|false and false|false or false|2 < 1|1 < 1|2 <= 1|1 = 2|before(2000-01-02, 2000-01-01)|before(2000-01-01, 2000-01-01)|if true then false else true|if false then true else false|-1 = 1|0 < -1`,
	} {
		for _, line := range strings.Split(texts, "\n") {
			for _, text := range strings.Split(line, "|") {
				becomes(t, "let f = one(if "+text+" then EUR else USD);", "COne "+want)
				becomes(t, "let f = one(if not ("+text+") then USD else EUR);", "COne "+want)
				becomes(t, "let g(b, x, y) = if b then x else y; let f = one(g("+text+", EUR, USD));", "COne "+want)
			}
		}
	}
}

// P13.1: a term with an OFeed or an ONow is no constant, even if its value hangs on none.
func TestNoConstants(t *testing.T) {
	for _, text := range []string{"now", "ago(1, now)", "ago(-1, now)", "plus(now, 1)", `plus(2000-01-01, feed "a")`, `plus(2000-01-01, 0 * feed "a")`, "if true then 2000-01-01 else now", "if false then now else 2000-01-01", `if feed "a" < 1 then 2000-01-01 else 2000-01-01`, `if true or feed "a" < 1 then 2000-01-01 else 2000-01-01`, `if false and feed "a" < 1 then 2000-01-01 else 2000-01-01`, "months(2000-01-01, years(now, now))", "months(2000-01-01, years30(now, 2000-01-01))", "if before(2000-01-01, now) then 2000-01-01 else 2000-01-01", `plus(2000-01-01, -feed "a")`, `if not (1 = feed "a") then 2000-01-01 else 2000-01-01`} {
		becomes(t, "let f = at("+text+", zero);", "const")
		becomes(t, "let f = when("+text+", true, zero);", "const")
		becomes(t, `let f = pick "p"(`+text+", zero, zero);", "const")
		becomes(t, "let f = one(if before("+text+", 2000-01-01) then EUR else EUR);", "const")
		becomes(t, "let f = scale(ago(years("+text+", 2000-01-01) * 0, 1), zero);", "const")
		becomes(t, "let g(d) = at(d, zero); let f = g("+text+");", "const")
		becomes(t, "let g(d) = zero; let f = g("+text+");", "CZero")
	}
	becomes(t, `let f = when(2000-01-01, feed "a" < 1, at(2000-01-01, scale(feed "a", zero)));`, "CWhen 36524 (OLt (OFeed a 0, ONum 1000000), CAt 36524 (CScale (OFeed a 0, CZero)))")
}

// P13.1: how many days ago may be asked for.
func TestDaysAgo(t *testing.T) {
	for k, want := range map[string]string{
		"0": "0", "1": "1", "-1": "-1", "3660": "3660", "-3660": "-3660", "3661": "", "-3661": "", "0.5": "", "-0.5": "", "0.000001": "", "1.000001": "", "-3660.000001": "", "3660.000001": "", "3659.999999": "", "1000000000": "", "-1000000000": "",
		"1 + 1": "2", "0.5 + 0.5": "1", "2 * 0.25": "", "7 / 7": "1", "1 / 0": "0", "3000 + 660": "3660", "3000 + 661": "", `feed "k"`: "", `0 * feed "k"`: "", "years(now, now)": "",
		"if true then 2 else 0.5": "2", "if false then 2 else 0.5": "", "ago(0, 5)": "5", "ago(3660, ago(3660, 5))": "5", "ago(0.5, 5)": "", "years(2000-01-01, 2000-12-31)": "1",
	} {
		feed, now, number := "CScale (OFeed a "+want+", CZero)", "CScale (OYears (ONow "+want+", ODate 0), CZero)", "CScale (ONum 1000000, CZero)"
		zero, euro := "CZero", "COne EUR"
		if want == "" {
			feed, now, number, zero, euro = "const", "const", "const", "const", "const"
		}
		becomes(t, `let f = scale(ago(`+k+`, feed "a"), zero);`, feed)
		becomes(t, `let f = ago(`+k+`, scale(feed "a", zero));`, feed)
		becomes(t, `let f = ago(`+k+`, scale(years(now, 1900-01-01), zero));`, now)
		becomes(t, `let f = scale(ago(`+k+`, 1), zero);`, number)
		becomes(t, `let f = ago(`+k+`, zero);`, zero)
		becomes(t, `let f = one(ago(`+k+`, EUR));`, euro)
		becomes(t, `let drop(x, y) = x; let f = drop(zero, ago(`+k+`, EUR));`, zero)
	}
}

// P13.1: ago in ago: each N is moved on, and stays within.
func TestAgoInAgo(t *testing.T) {
	observes(t, `ago(1, ago(2, feed "a"))`, "OFeed a 3")
	observes(t, `ago(1, feed "a" + ago(2, feed "b" + ago(-4, feed "c")) + 1) + feed "d"`, "OAdd (OAdd (OAdd (OFeed a 1, OAdd (OFeed b 3, OFeed c -1)), ONum 1000000), OFeed d 0)")
	observes(t, `ago(3660, ago(-3660, ago(3660, feed "a")))`, "OFeed a 3660")
	observes(t, `ago(1, ago(3660, feed "a"))`, "const")
	observes(t, `ago(-1, ago(-3660, feed "a"))`, "const")
	observes(t, `ago(-1, ago(1, ago(3660, feed "a")))`, "const")
	observes(t, `ago(1, ago(3660, feed "a") + ago(-3660, feed "b"))`, "const")
	observes(t, `ago(-1, ago(3660, feed "a") + ago(-3660, feed "b"))`, "const")
	observes(t, `ago(0, ago(3660, feed "a") + ago(-3660, feed "b"))`, "OAdd (OFeed a 3660, OFeed b -3660)")
	observes(t, `ago(1, ago(3659, feed "a") + ago(-3660, feed "b") + 5)`, "OAdd (OAdd (OFeed a 3660, OFeed b -3659), ONum 5000000)")
	observes(t, `ago(1, 5 + ago(3660, feed "a"))`, "const")
	observes(t, `ago(1, if true then 1 else ago(3660, years(now, now)))`, "const")
	observes(t, "ago(3660, ago(3660, 1 + 2))", "OAdd (ONum 1000000, ONum 2000000)")
	becomes(t, `let g(x) = both(ago(5, x), x); let f = g(ago(1, scale(feed "a", zero)));`, "CBoth (CScale (OFeed a 6, CZero), CScale (OFeed a 1, CZero))")
	term := func(back int) string {
		return fmt.Sprintf("CAt 7 (CWhen 8 (OBefore (ONow %d, ODate 2), CPick p 3 (CZero, CScale (ONum 5000000, CZero))))", back)
	}
	becomes(t, `let g(x) = both(x, both(ago(5, x), ago(-5, x))); let f = g(at(1900-01-08, when(1900-01-09, before(now, 1900-01-03), pick "p"(1900-01-04, zero, scale(5, zero)))));`,
		"CBoth ("+term(0)+", CBoth ("+term(5)+", "+term(-5)+"))")
	becomes(t, "let f = ago(1, one(ago(2, ago(3, EUR))));", "COne EUR")
}
