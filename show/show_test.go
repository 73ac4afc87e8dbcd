package show_test

import (
	"math"
	"strings"
	"testing"

	"usance/api"
	"usance/show"
)

func node(kind int, text string, n int64, kids ...api.Node) api.Node {
	return api.Node{Kind: kind, Text: text, N: n, Kids: kids}
}

func number(n int64) api.Node       { return node(api.NNum, "", n) }
func day(n int64) api.Node          { return node(api.NDate, "", n) }
func currency(text string) api.Node { return node(api.NCur, text, 0) }
func truth(n int64) api.Node        { return node(api.NBool, "", n) }
func feed(text string) api.Node     { return node(api.NFeed, text, 0) }
func name(text string) api.Node     { return node(api.NName, text, 0) }
func cond(a, b, c api.Node) api.Node {
	return node(api.NIf, "", 0, a, b, c)
}
func call(text string, kids ...api.Node) api.Node   { return node(api.NCall, text, 0, kids...) }
func pick(text string, kids ...api.Node) api.Node   { return node(api.NPick, text, 0, kids...) }
func unary(text string, kid api.Node) api.Node      { return node(api.NUnary, text, 0, kid) }
func binary(text string, a, b api.Node) api.Node    { return node(api.NBinary, text, 0, a, b) }
func module(text string, kids ...api.Node) api.Node { return node(api.NModule, text, 0, kids...) }
func imported(text string) api.Node                 { return node(api.NImport, text, 0) }
func let(text string, kids ...api.Node) api.Node    { return node(api.NLet, text, 0, kids...) }
func param(text string) api.Node                    { return node(api.NParam, text, 0) }

// repeat is n trees that are one another's likes.
func repeat(n int, kid api.Node) []api.Node {
	out := make([]api.Node, n)
	for i := range out {
		out[i] = kid
	}
	return out
}

// rightExpr checks that an expression is right, and its form; it is no module.
func rightExpr(t *testing.T, n api.Node, want string) {
	t.Helper()
	if s, e := show.Expr(n); s != want || e != api.OK || !show.RightExpr(n) {
		t.Errorf("Expr: %.80q, %v, %t, want %.80q", s, e, show.RightExpr(n), want)
	}
	if s, e := show.Module(n); s != "" || e != api.ErrShowForm || show.Right(n) {
		t.Errorf("Module of %.80q: %.80q, %v, %t", want, s, e, show.Right(n))
	}
}

// rightModule checks that a module is right, and its form; it is no expression.
func rightModule(t *testing.T, n api.Node, want string) {
	t.Helper()
	if s, e := show.Module(n); s != want || e != api.OK || !show.Right(n) {
		t.Errorf("Module: %.80q, %v, %t, want %.80q", s, e, show.Right(n), want)
	}
	if s, e := show.Expr(n); s != "" || e != api.ErrShowForm || show.RightExpr(n) {
		t.Errorf("Expr of %.80q: %.80q, %v, %t", want, s, e, show.RightExpr(n))
	}
}

// wrong checks that a tree is neither.
func wrong(t *testing.T, what string, n api.Node) {
	t.Helper()
	if s, e := show.Expr(n); s != "" || e != api.ErrShowForm || show.RightExpr(n) {
		t.Errorf("%s: Expr: %.80q, %v, %t", what, s, e, show.RightExpr(n))
	}
	if s, e := show.Module(n); s != "" || e != api.ErrShowForm || show.Right(n) {
		t.Errorf("%s: Module: %.80q, %v, %t", what, s, e, show.Right(n))
	}
}

// wrongExpr checks that it is none alone, nor within an expression or a module.
func wrongExpr(t *testing.T, what string, n api.Node) {
	t.Helper()
	wrong(t, what, n)
	wrong(t, "f of "+what, call("f", n))
	wrong(t, "if with "+what, cond(name("a"), name("a"), n))
	wrong(t, "let with "+what, module("m", let("f", n)))
	wrong(t, "deeper "+what, module("m", let("g", name("a")), let("f", param("p"), unary("-", binary("+", pick("a", name("b"), n, name("c")), name("d"))))))
}

// samples are a right expression of each Kind, with its form.
func samples() map[string]api.Node {
	a, b, c := name("a"), name("b"), name("c")
	return map[string]api.Node{
		"1.5": number(1500000), "2026-01-31": day(46051), "EUR": currency("EUR"), "true": truth(1), "false": truth(0), `feed "eur"`: feed("eur"),
		"x": name("x"), "m.x": name("m.x"), "f(a)": call("f", a), "m.f(a, b)": call("m.f", a, b), "-a": unary("-", a), "not a": unary("not", a),
		"a + b": binary("+", a, b), "if a then b else c": cond(a, b, c), `pick "ex"(a, b, c)`: pick("ex", a, b, c),
	}
}

// P9.1: the chapter's examples.
func TestExamples(t *testing.T) {
	rightExpr(t, binary("-", binary("-", name("a"), name("b")), number(1500000)), "(a - b) - 1.5")
	rightExpr(t, unary("-", unary("-", number(2000000))), "-(-2)")
	rightExpr(t, unary("not", name("x")), "not x")
	rightExpr(t, cond(truth(1), call("f", day(46051)), pick("ex", day(0), name("zero"), currency("EUR"))), `if true then f(2026-01-31) else pick "ex"(1900-01-01, zero, EUR)`)
	for what, n := range map[string]api.Node{"Num -1": number(-1), "Name if": name("if"), "Call without kids": call("f")} {
		wrongExpr(t, what, n)
	}
}

// P9.1: each Kind alone, as a kid of each other, in a module.
func TestForms(t *testing.T) {
	for s, n := range samples() {
		rightExpr(t, n, s)
		rightExpr(t, call("g", n), "g("+s+")")
		rightExpr(t, call("g", n, n, n), "g("+s+", "+s+", "+s+")")
		rightExpr(t, pick("if", n, n, n), `pick "if"(`+s+", "+s+", "+s+")")
		rightExpr(t, cond(n, n, n), "if "+s+" then "+s+" else "+s)
		rightModule(t, module("m", let("x", n)), "module m;\nlet x = "+s+";\n")
		rightModule(t, module("m", imported("n"), let("x", param("p"), param("q"), n), let("y", n)), "module m;\nimport n;\nlet x(p, q) = "+s+";\nlet y = "+s+";\n")
	}
	for text, s := range map[string]string{"-": "-a", "not": "not a"} {
		rightExpr(t, unary(text, name("a")), s)
	}
	for _, sign := range []string{"or", "and", "<", "<=", "=", "+", "-", "*", "/"} {
		rightExpr(t, binary(sign, name("a"), name("b")), "a "+sign+" b")
	}
}

// P9.1: Unary, Binary and If within Unary and Binary, on either side; no other Kind stands in parentheses.
func TestParentheses(t *testing.T) {
	for s, n := range samples() {
		if n.Kind == api.NUnary || n.Kind == api.NBinary || n.Kind == api.NIf {
			s = "(" + s + ")"
		}
		rightExpr(t, unary("-", n), "-"+s)
		rightExpr(t, unary("not", n), "not "+s)
		rightExpr(t, unary("-", unary("-", n)), "-(-"+s+")")
		rightExpr(t, unary("not", unary("not", n)), "not (not "+s+")")
		for _, sign := range []string{"or", "and", "<", "<=", "=", "+", "-", "*", "/"} {
			rightExpr(t, binary(sign, n, name("a")), s+" "+sign+" a")
			rightExpr(t, binary(sign, name("a"), n), "a "+sign+" "+s)
			rightExpr(t, binary(sign, n, n), s+" "+sign+" "+s)
			rightExpr(t, binary("+", binary(sign, n, n), n), "("+s+" "+sign+" "+s+") + "+s)
		}
	}
}

// P9.1: each Kind with a kid too few, a kid too much, a Text or an N that is not its own, and other Kinds.
func TestSpoiltNodes(t *testing.T) {
	for s, n := range samples() {
		for _, text := range []string{"", "a", "if", "EUR", "-", "not", "+", "a.b", " ", "\x00"} {
			m := n
			m.Text = text
			if !newModel().expr(m) {
				wrongExpr(t, s+" with the Text "+text, m)
			}
		}
		for _, v := range []int64{-1, 1, 2, 1000000, math.MaxInt64, math.MinInt64} {
			m := n
			m.N = v
			if !newModel().expr(m) {
				wrongExpr(t, s+" with another N", m)
			}
		}
		if n.Kind != api.NCall {
			m := n
			m.Kids = append(append([]api.Node{}, n.Kids...), name("a"))
			wrongExpr(t, s+" with a kid too much", m)
		}
		if len(n.Kids) > 0 {
			m := n
			m.Kids = nil
			wrongExpr(t, s+" without kids", m)
		}
		if len(n.Kids) > 1 && n.Kind != api.NCall {
			m := n
			m.Kids = n.Kids[1:]
			wrongExpr(t, s+" with a kid too few", m)
		}
		for _, kind := range []int{0, -1, api.NModule, api.NImport, api.NLet, api.NParam, api.NPick + 1, math.MaxInt, math.MinInt} {
			m := n
			m.Kind = kind
			if kind != api.NModule { // of which a name without kids is one
				wrongExpr(t, s+" of another Kind", m)
			}
			wrong(t, "f of "+s+" of another Kind", call("f", m))
		}
	}
	wrong(t, "nothing", api.Node{})
	wrong(t, "a module within", call("f", module("m")))
}

// P9.1: N of Num, Date, Bool: the edges and what lies beside them.
func TestNumbers(t *testing.T) {
	for s, n := range map[string]int64{"0": 0, "0.000001": 1, "1": 1000000, "0.1": 100000, "999999999.999999": 1e15 - 1, "1000000000": 1e15} {
		rightExpr(t, number(n), s)
		rightExpr(t, unary("-", number(n)), "-"+s)
	}
	for _, n := range []int64{-1, -1000000, 1e15 + 1, -1e15, math.MaxInt64, math.MinInt64} {
		wrongExpr(t, "Num", number(n))
	}
	for s, n := range map[string]int64{"1900-01-01": 0, "1900-01-02": 1, "2000-02-29": 36583, "2099-12-30": 73047, "2099-12-31": 73048} {
		rightExpr(t, day(n), s)
	}
	for _, n := range []int64{-1, 73049, 1 << 32, 1<<32 + 1, math.MaxInt64, math.MinInt64} {
		wrongExpr(t, "Date", day(n))
	}
	for _, n := range []int64{-1, 2, 1 << 32, math.MaxInt64, math.MinInt64} {
		wrongExpr(t, "Bool", truth(n))
	}
}

// P9.1: names of 1, 24 and 25 bytes, keywords, far names, wherever they stand.
func TestNames(t *testing.T) {
	long := "a" + strings.Repeat("z9_", 7) + "bc"
	if len(long) != 24 {
		t.Fatal(len(long))
	}
	free := []string{"a", "z", "a0", "a_", "z9_", long, "iff", "i", "nota", "lets", "feeds", "modul", "eur", "scale"}
	none := []string{"", long + "d", strings.Repeat("a", 1<<16), "A", "aB", "0", "_", "0a", "_a", "a-", "a b", " a", "a ", "a\n", "a\x00", "\x00", "é", "a\xff", "`", "{", "a/", "a:", "a\"", "a,"}
	far := []string{"a.b", "z.z", long + "." + long, "a.iff", "iff.a"}
	notFar := []string{".", "a.", ".a", "a..b", "a.b.c", "a.b.", "a .b", "a. b", long + "d.a", "a." + long + "d", "a.A", "A.a", "a.0", "a._", "0.a"}
	words := strings.Split(keywords, "|")
	for _, s := range free {
		rightExpr(t, name(s), s)
		rightExpr(t, call(s, name("a")), s+"(a)")
		rightModule(t, module(s), "module "+s+";\n")
		rightModule(t, module("m", imported(s)), "module m;\nimport "+s+";\n")
		rightModule(t, module("m", let(s, param(s), name(s))), "module m;\nlet "+s+"("+s+") = "+s+";\n")
	}
	for _, s := range append(free, words...) {
		rightExpr(t, feed(s), `feed "`+s+`"`)
		rightExpr(t, pick(s, repeat(3, name("a"))...), `pick "`+s+`"(a, a, a)`)
	}
	for _, s := range far {
		rightExpr(t, name(s), s)
		rightExpr(t, call(s, name("a")), s+"(a)")
	}
	for _, s := range append(append(append([]string{}, none...), far...), notFar...) {
		wrongExpr(t, "feed "+s, feed(s))
		wrongExpr(t, "pick "+s, pick(s, repeat(3, name("a"))...))
		wrongRows(t, s)
	}
	for _, s := range words {
		wrongRows(t, s)
		notFar = append(notFar, s, s+".a", "a."+s, s+"."+s)
	}
	for _, s := range append(none, notFar...) {
		wrongExpr(t, "Name "+s, name(s))
		wrongExpr(t, "Call "+s, call(s, name("a")))
	}
}

// wrongRows checks that a text is no name of a module's, nor of its rows.
func wrongRows(t *testing.T, s string) {
	t.Helper()
	wrong(t, "Module "+s, module(s))
	wrong(t, "Import "+s, module("m", imported("n"), imported(s)))
	wrong(t, "Let "+s, module("m", let(s, name("a"))))
	wrong(t, "Param "+s, module("m", let("f", param("a"), param(s), name("a"))))
}

// P9.1
func TestCurrencies(t *testing.T) {
	for _, s := range []string{"EUR", "AAA", "ZZZ", "AZA"} {
		rightExpr(t, currency(s), s)
	}
	for _, s := range []string{"", "E", "EU", "EURO", "eur", "EUr", "eUR", "E1R", "EU ", "EU@", "EU[", "ÄÖ", "E\x00R", strings.Repeat("A", 1<<16)} {
		wrongExpr(t, "Cur "+s, currency(s))
	}
}

// P9.1: what is no Text of a Unary, of a Binary.
func TestSigns(t *testing.T) {
	for _, s := range []string{"", " ", "- ", "not ", "Not", "--", ">", ">=", "==", "!=", "<<", "=<", "<>", "!", "%", "and ", " or", "xor", "if", "true", "(", ")", ",", ";", "a", "minus", "\x00"} {
		wrongExpr(t, "Unary "+s, unary(s, name("a")))
		wrongExpr(t, "Binary "+s, binary(s, name("a"), name("b")))
	}
	for _, s := range []string{"or", "and", "<", "<=", "=", "+", "*", "/"} {
		wrongExpr(t, "Unary "+s, unary(s, name("a")))
	}
	wrongExpr(t, "Binary not", binary("not", name("a"), name("b")))
}

// P9.1: what modules are made of, and in which order.
func TestModules(t *testing.T) {
	a := name("a")
	rightModule(t, module("m"), "module m;\n")
	rightModule(t, module("m", imported("m"), imported("n"), imported("m")), "module m;\nimport m;\nimport n;\nimport m;\n")
	rightModule(t, module("m", let("f", a), let("f", param("f"), param("f"), a)), "module m;\nlet f = a;\nlet f(f, f) = a;\n")
	for what, n := range map[string]api.Node{
		"an Import behind a Let":       module("m", let("f", a), imported("n")),
		"an Import between Lets":       module("m", imported("n"), let("f", a), imported("n"), let("g", a)),
		"a Let without an expression":  module("m", let("f")),
		"a Let with Params alone":      module("m", let("f", param("a"), param("b"))),
		"a Let with two expressions":   module("m", let("f", a, a)),
		"a Param behind an expression": module("m", let("f", a, param("a"))),
		"a Param between expressions":  module("m", let("f", a, param("a"), a)),
		"a Param in an expression":     module("m", let("f", call("g", param("a")))),
		"an Import with a kid":         module("m", node(api.NImport, "n", 0, a)),
		"an Import with an Import":     module("m", node(api.NImport, "n", 0, imported("o"))),
		"a Param with a kid":           module("m", let("f", node(api.NParam, "p", 0, a), a)),
		"a Param with a Param":         module("m", let("f", node(api.NParam, "p", 0, param("q")), a)),
		"an expression as a row":       module("m", a),
		"a Param as a row":             module("m", param("a")),
		"a module as a row":            module("m", module("n")),
		"a Let as an expression":       module("m", let("f", let("g", a))),
		"an Import as an expression":   module("m", let("f", imported("g"))),
		"a row of no Kind":             module("m", api.Node{}),
		"an Import alone":              imported("n"),
		"a Let alone":                  let("f", a),
		"a Param alone":                param("p"),
		"a module's N":                 node(api.NModule, "m", 1),
		"an Import's N":                module("m", node(api.NImport, "n", 1)),
		"a Let's N":                    module("m", node(api.NLet, "f", -1, a)),
		"a Param's N":                  module("m", let("f", node(api.NParam, "p", 1), a)),
	} {
		wrong(t, what, n)
	}
}

// P9.1 (R1 to R3): places do not matter; nothing is written into what is handed in; nil and empty lists are one.
func TestHandedIn(t *testing.T) {
	g := func() api.Node {
		return module("m", imported("n"), let("f", param("p"), binary("+", unary("-", name("a")), cond(truth(1), number(1), day(2)))))
	}
	n, plain := g(), g()
	move(&n, -7)
	spare := append(make([]api.Node, 0, 9), n.Kids...)
	n.Kids = spare
	want := "module m;\nimport n;\nlet f(p) = (-a) + (if true then 0.000001 else 1900-01-03);\n"
	rightModule(t, n, want)
	rightModule(t, plain, want)
	if !show.Same(n, plain) || !show.Same(plain, n) {
		t.Error("places")
	}
	for _, x := range spare[len(spare):cap(spare)] {
		if x.Kind != 0 || x.Text != "" || x.Kids != nil {
			t.Error("spare room", x)
		}
	}
	if n.Kids[1].Kids[1].Kids[0].At >= 0 || n.At >= 0 || form(n) != want {
		t.Error("written into")
	}
	empty := name("a")
	empty.Kids = []api.Node{}
	rightExpr(t, empty, "a")
	if !show.Same(empty, name("a")) || !show.Same(name("a"), empty) {
		t.Error("empty and nil")
	}
}

// move gives each node another place.
func move(n *api.Node, at int) {
	n.At = at
	for i := range n.Kids {
		move(&n.Kids[i], at*3-i)
	}
}
