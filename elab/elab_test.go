package elab_test

import (
	"fmt"
	"reflect"
	"strings"
	"testing"

	"usance/api"
	"usance/elab"
	"usance/syntax"
)

// opWords are the Ops' names, in their order.
var opWords = strings.Fields("none ONum OBool ODate OFeed ONow ONeg OAdd OSub OMul ODiv OLt OLe OEq ONot OAnd OOr OBefore OPlus OMonths OYears OYears30 OIf CZero COne CGive CScale CBoth CIf CAt CWhen CPick")

// shown is a term as the document writes it; N stands in it where it is other than 0 or the Op has one.
func shown(c api.Core) string {
	out := opWords[c.Op]
	if c.S != "" {
		out += " " + c.S
	}
	if c.N != 0 || c.Op >= api.ONum && c.Op <= api.ONow || c.Op >= api.CAt {
		out += fmt.Sprint(" ", c.N)
	}
	if len(c.Kids) == 0 {
		return out
	}
	var kids []string
	for _, kid := range c.Kids {
		kids = append(kids, shown(kid))
	}
	return out + " (" + strings.Join(kids, ", ") + ")"
}

// parsed are the trees of modules' texts, which must be such.
func parsed(t *testing.T, texts ...string) []api.Node {
	t.Helper()
	var out []api.Node
	for _, text := range texts {
		n, at, e := syntax.Module(text)
		if e != api.OK {
			t.Fatalf("%s: no module: %v at %d", text, e, at)
		}
		out = append(out, n)
	}
	return out
}

// answer is a term as a text, or the error; beside an error there must be nothing else.
func answer(t *testing.T, mods []api.Node, entry string, args ...api.Val) string {
	t.Helper()
	c, e := elab.Term(mods, entry, args)
	if e != api.OK {
		if !reflect.DeepEqual(c, api.Core{}) {
			t.Errorf("%v beside %v", c, e)
		}
		return word(e)
	}
	return shown(c)
}

func word(e api.Errno) string {
	return map[api.Errno]string{api.ErrElabForm: "form", api.ErrElabEntry: "entry", api.ErrElabArgs: "args", api.ErrElabConst: "const", api.ErrElabSize: "size"}[e]
}

// becomes checks what the definition f, of a module with these rows, becomes with arguments.
func becomes(t *testing.T, rows, want string, args ...api.Val) {
	t.Helper()
	if got := answer(t, parsed(t, "module m; "+rows), "f", args...); got != want {
		t.Errorf("%s: %s, want %s", rows, got, want)
	}
}

// observes checks what a number that stands in a contract becomes.
func observes(t *testing.T, number, want string, args ...api.Val) {
	t.Helper()
	params := ""
	if len(args) > 0 {
		params = "(" + strings.Join([]string{"p", "q", "r"}[:len(args)], ", ") + ")"
	}
	if want != "const" && want != "size" {
		want = "CScale (" + want + ", CZero)"
	}
	becomes(t, "let f"+params+" = scale("+number+", zero);", want, args...)
}

func number(n int64) api.Val { return api.Val{Type: api.TNum, N: n} }

func truth(n int64) api.Val { return api.Val{Type: api.TBool, N: n} }

func day(n int64) api.Val { return api.Val{Type: api.TDate, N: n} }

func currency(s string) api.Val { return api.Val{Type: api.TCur, S: s} }

// P13.1: the chapter's examples, and those of the whole that are this layer's.
func TestExamples(t *testing.T) {
	bond := parsed(t, "module m; let bond(c, n, d) = at(d, scale(n, one(c))); let deal = bond(EUR, 100, 2026-01-31);")
	if got := answer(t, bond, "deal"); got != "CAt 46051 (CScale (ONum 100000000, COne EUR))" {
		t.Error(got)
	}
	becomes(t, `let f(n) = scale(ago(2, feed "eur") * n, zero);`, "CScale (OMul (OFeed eur 2, ONum 1000000), CZero)", number(1000000))
	becomes(t, "let f(b) = if b then one(EUR) else zero;", "CIf (OBool 1, COne EUR, CZero)", truth(1))
	becomes(t, "let f = at(now, zero);", "const")
	becomes(t, "let f = scale(ago(0.5, 1), zero);", "const")
	becomes(t, "let f = 1;", "entry")
	becomes(t, "let g = zero;", "entry")
	becomes(t, "let f(n) = scale(n, zero);", "args")
	becomes(t, "let f = at(2026-01-31, scale(100, one(EUR)));", "CAt 46051 (CScale (ONum 100000000, COne EUR))")
	becomes(t, "let f = both(one(EUR), give(one(USD)));", "CBoth (COne EUR, CGive (COne USD))")
	becomes(t, `let f = when(2026-03-31, feed "eur" < 1, one(USD));`, "CWhen 46110 (OLt (OFeed eur 0, ONum 1000000), COne USD)")
	becomes(t, `let f = pick "ex"(2026-06-30, scale(feed "gas", one(EUR)), zero);`, "CPick ex 46201 (CScale (OFeed gas 0, COne EUR), CZero)")
	becomes(t, `let late(x) = ago(2, x); let f = scale(late(feed "eur"), zero);`, "CScale (OFeed eur 2, CZero)")
	becomes(t, `let f = scale(ago(-1, feed "eur"), zero);`, "CScale (OFeed eur -1, CZero)")
	choose := "let choose(b, x, y) = if b then x else y; "
	becomes(t, choose+`let f = one(choose(feed "eur" < 1, EUR, USD));`, "const")
	becomes(t, choose+`let f = choose(feed "eur" < 1, one(choose(true, EUR, USD)), scale(choose(false, 1, 2), zero));`,
		"CIf (OLt (OFeed eur 0, ONum 1000000), COne EUR, CScale (OIf (OBool 0, ONum 1000000, ONum 2000000), CZero))")
	becomes(t, "let f = scale(0.4 + 0.6, one(EUR));", "CScale (OAdd (ONum 400000, ONum 600000), COne EUR)")
}

// P13.1: numbers of each Kind and of each name that is built in.
func TestNumbers(t *testing.T) {
	for text, want := range map[string]string{
		"0": "ONum 0", "1000000000": "ONum 1000000000000000", "0.000001": "ONum 1", `feed "now"`: "OFeed now 0", `feed "if"`: "OFeed if 0", "-1": "ONeg (ONum 1000000)", "-(-1)": "ONeg (ONeg (ONum 1000000))",
		"1 + 2": "OAdd (ONum 1000000, ONum 2000000)", "1 - 2": "OSub (ONum 1000000, ONum 2000000)", "1 * 2": "OMul (ONum 1000000, ONum 2000000)", "1 / 2": "ODiv (ONum 1000000, ONum 2000000)",
		"1 - 2 - 3":                              "OSub (OSub (ONum 1000000, ONum 2000000), ONum 3000000)",
		"years(now, 1900-01-09)":                 "OYears (ONow 0, ODate 8)",
		"years30(1900-01-09, now)":               "OYears30 (ODate 8, ONow 0)",
		`if true then 1 else feed "a"`:           "OIf (OBool 1, ONum 1000000, OFeed a 0)",
		"years(plus(now, 1), now)":               "OYears (OPlus (ONow 0, ONum 1000000), ONow 0)",
		"years(months(now, 1), now)":             "OYears (OMonths (ONow 0, ONum 1000000), ONow 0)",
		"years(if false then now else now, now)": "OYears (OIf (OBool 0, ONow 0, ONow 0), ONow 0)",
	} {
		observes(t, text, want)
	}
}

// P13.1: truths likewise.
func TestTruths(t *testing.T) {
	for text, want := range map[string]string{
		"true": "OBool 1", "false": "OBool 0", "not true": "ONot (OBool 1)", "not (not false)": "ONot (ONot (OBool 0))",
		"true or false": "OOr (OBool 1, OBool 0)", "true and false": "OAnd (OBool 1, OBool 0)",
		"1 < 2": "OLt (ONum 1000000, ONum 2000000)", "1 <= 2": "OLe (ONum 1000000, ONum 2000000)", "1 = 2": "OEq (ONum 1000000, ONum 2000000)",
		"before(now, 1900-01-09)": "OBefore (ONow 0, ODate 8)", "if true then false else 1 < 2": "OIf (OBool 1, OBool 0, OLt (ONum 1000000, ONum 2000000))",
	} {
		becomes(t, "let f = if "+text+" then zero else one(EUR);", "CIf ("+want+", CZero, COne EUR)")
		becomes(t, "let f = when(1900-01-04, "+text+", one(EUR));", "CWhen 3 ("+want+", COne EUR)")
	}
}

// P13.1: contracts likewise.
func TestContracts(t *testing.T) {
	for text, want := range map[string]string{
		"zero": "CZero", "one(EUR)": "COne EUR", "give(zero)": "CGive (CZero)", "scale(0, zero)": "CScale (ONum 0, CZero)",
		"both(zero, one(USD))": "CBoth (CZero, COne USD)", "both(one(USD), zero)": "CBoth (COne USD, CZero)",
		"at(1900-01-01, zero)": "CAt 0 (CZero)", "at(2099-12-31, zero)": "CAt 73048 (CZero)",
		"when(1900-01-01, true, zero)":             "CWhen 0 (OBool 1, CZero)",
		"when(2099-12-31, before(now, now), zero)": "CWhen 73048 (OBefore (ONow 0, ONow 0), CZero)",
		`pick "a"(1900-01-01, zero, one(EUR))`:     "CPick a 0 (CZero, COne EUR)",
		`pick "not"(2099-12-31, one(EUR), zero)`:   "CPick not 73048 (COne EUR, CZero)",
		"if true then zero else give(zero)":        "CIf (OBool 1, CZero, CGive (CZero))",
		"one(if true then EUR else USD)":           "COne EUR", "one(if false then EUR else USD)": "COne USD",
		"one(if 1 < 2 then (if true and false then EUR else GBP) else USD)": "COne GBP",
		"one(ago(1, EUR))": "COne EUR",
	} {
		becomes(t, "let f = "+text+";", want)
	}
}
