package syntax_test

import (
	"testing"

	"usance/api"
	"usance/syntax"
)

// deep checks that an expression is read, and its depth.
func deep(t *testing.T, s string, want int) {
	t.Helper()
	if got := depth(right(t, syntax.Expr, s)); got != want {
		t.Errorf("%.40q: a depth of %d, want %d", s, got, want)
	}
}

// P7.2: depths of 100 and 101, of each kind of node; the place is the first node's that is too deep.
func TestDepth(t *testing.T) {
	deep(t, "a", 1)
	deep(t, times(200, "(")+"a"+times(200, ")"), 1)
	for _, x := range []struct {
		ahead, behind string
		at            int // of the node within ahead and behind
	}{
		{"-", "", 0}, {"not(", ")", 0}, {"f(", ")", 0}, {"m.f(1,", ",2)", 0}, {"if ", " then a else b", 0}, {"if a then ", " else b", 0}, {"if a then b else ", "", 0},
		{`pick "a"(`, ",b,c)", 0}, {`pick "a"(b,c,`, ")", 0}, {"1+(", ")", 1}, {"1<(", ")", 1}, {"1 or(", ")", 2},
	} {
		nested := func(n int) string { return times(n, x.ahead) + "1" + times(n, x.behind) }
		deep(t, nested(99), 100)
		refused(t, syntax.Expr, nested(100), x.at, api.ErrSyntaxNest)
		refused(t, syntax.Expr, " "+nested(100), 1+x.at, api.ErrSyntaxNest)
		refused(t, syntax.Expr, nested(101), len(x.ahead)+x.at, api.ErrSyntaxNest)
		refused(t, syntax.Expr, nested(140), 40*len(x.ahead)+x.at, api.ErrSyntaxNest)
		refused(t, syntax.Expr, nested(100)+" ,,", x.at, api.ErrSyntaxNest) // as soon as it is made
	}
	refused(t, syntax.Expr, times(100, "f(")+"1"+times(99, ")"), 300, api.ErrSyntaxToken) // it is not made
	refused(t, syntax.Expr, times(100, "f(")+"1"+times(99, ")")+",?", 301, api.ErrSyntaxByte)
	refused(t, syntax.Expr, times(100, "f(")+"1"+times(99, ")")+",)", 301, api.ErrSyntaxToken)
}

// P7.2: chains are as deep as they are long, from the left.
func TestDepthOfChains(t *testing.T) {
	for _, word := range []string{"+", "-", "*", "/", " or ", " and "} {
		chain := func(n int) string { return "a" + times(n-1, word+"a") }
		at := len(chain(100))
		if len(word) > 1 {
			at++
		}
		deep(t, chain(100), 100)
		deep(t, "1<("+chain(99)+")", 100)
		refused(t, syntax.Expr, chain(101), at, api.ErrSyntaxNest)
		refused(t, syntax.Expr, chain(150), at, api.ErrSyntaxNest)
		refused(t, syntax.Expr, chain(101)+" ,", at, api.ErrSyntaxNest)
		refused(t, syntax.Expr, chain(101)+" a", at, api.ErrSyntaxNest)
		refused(t, syntax.Expr, chain(100)+word+" ,", len(chain(100)+word)+1, api.ErrSyntaxToken)
		refused(t, syntax.Expr, chain(100)+" ,", len(chain(100))+1, api.ErrSyntaxToken)
		refused(t, syntax.Expr, "f("+chain(100)+")", 0, api.ErrSyntaxNest)
		refused(t, syntax.Expr, "f("+chain(100), len(chain(100))+2, api.ErrSyntaxToken)
		refused(t, syntax.Expr, "f("+chain(100)+",1,1,1,1,1,1,1,1)", len(chain(100))+2+15, api.ErrSyntaxMany)
	}
	refused(t, syntax.Expr, "a<("+sumOf(100)+")", 1, api.ErrSyntaxNest)
	refused(t, syntax.Expr, sumOf(100)+"<a", len(sumOf(100)), api.ErrSyntaxNest)
	deep(t, sumOf(100)+"*a", 100)
	refused(t, syntax.Expr, "a*b"+times(99, "+1"), 3+98*2, api.ErrSyntaxNest)
	deep(t, sumOf(99)+"<a", 100)
	deep(t, "a*("+sumOf(99)+")", 100)
	// A module's own nodes are no expressions.
	right(t, syntax.Module, "module m; let a(b) = "+sumOf(100)+";")
	refused(t, syntax.Module, "module m; let a(b) = "+sumOf(101)+";", 21+len(sumOf(100)), api.ErrSyntaxNest)
}

// P7.2: nests of 300 and 301.
func TestNest(t *testing.T) {
	parens := func(n int, s string) string { return times(n, "(") + s + times(n, ")") }
	deep(t, parens(299, "a"), 1)
	refused(t, syntax.Expr, parens(300, "a"), 300, api.ErrSyntaxNest)
	refused(t, syntax.Expr, parens(301, "a"), 300, api.ErrSyntaxNest)
	refused(t, syntax.Expr, parens(300, " a"), 301, api.ErrSyntaxNest)
	refused(t, syntax.Expr, parens(300, "-a"), 300, api.ErrSyntaxNest)
	refused(t, syntax.Expr, parens(300, "if a then b else c"), 300, api.ErrSyntaxNest)
	refused(t, syntax.Expr, parens(300, "a b"), 300, api.ErrSyntaxNest)
	refused(t, syntax.Expr, times(1000, "("), 300, api.ErrSyntaxNest)
	// An expression that does not begin is none, be it too deep or not.
	refused(t, syntax.Expr, times(300, "("), 300, api.ErrSyntaxToken)
	refused(t, syntax.Expr, times(300, "(")+")", 300, api.ErrSyntaxToken)
	refused(t, syntax.Expr, times(299, "(")+")", 299, api.ErrSyntaxToken)
	refused(t, syntax.Expr, times(300, "(")+"?", 300, api.ErrSyntaxByte)
	for _, word := range []string{"not ", "-"} {
		words := func(n int) string { return times(n, word) + "a" }
		deep(t, parens(200, words(99)), 100)
		refused(t, syntax.Expr, parens(201, words(99)), 201+98*len(word), api.ErrSyntaxNest)
		refused(t, syntax.Expr, parens(299, words(1)), 299, api.ErrSyntaxNest)
		deep(t, parens(298, words(1)), 2)
		refused(t, syntax.Expr, parens(298, words(2)), 298+len(word), api.ErrSyntaxNest)
		refused(t, syntax.Expr, words(299), 199*len(word), api.ErrSyntaxNest) // a depth, from within
		refused(t, syntax.Expr, words(300), 299*len(word), api.ErrSyntaxNest)
		refused(t, syntax.Expr, words(1000), 299*len(word), api.ErrSyntaxNest)
		refused(t, syntax.Expr, times(299, word), 299*len(word), api.ErrSyntaxToken)
		refused(t, syntax.Expr, times(300, word), 299*len(word), api.ErrSyntaxNest)
		refused(t, syntax.Expr, times(300, word)+")", 299*len(word), api.ErrSyntaxNest)
		deep(t, parens(297, word+"(a)"), 2)
		refused(t, syntax.Expr, parens(298, word+"(a)"), 298+len(word)+1, api.ErrSyntaxNest)
	}
	for _, x := range []struct {
		ahead, behind string
		first         int // where its first kid begins
	}{
		{"f(", ")", 2}, {"f(b,", ")", 2}, {"if ", " then b else c", 3}, {"if b then ", " else c", 3}, {"if b then c else ", "", 3},
		{`pick "a"(`, ",b,c)", 9}, {`pick "a"(b,`, ",c)", 9}, {`pick "a"(b,c,`, ")", 9},
	} {
		deep(t, parens(298, x.ahead+"a"+x.behind), 2)
		refused(t, syntax.Expr, parens(298, x.ahead+"(a)"+x.behind), 298+len(x.ahead)+1, api.ErrSyntaxNest)
		refused(t, syntax.Expr, parens(299, x.ahead+"a"+x.behind), 299+x.first, api.ErrSyntaxNest)
	}
	// Operands do not nest; what stood within does not count any more.
	deep(t, parens(299, "a+b*c<d and e or f"), 6)
	deep(t, parens(299, "a")+"+"+parens(299, "a")+"*"+parens(299, "b"), 3)
	deep(t, "f("+parens(298, "a")+","+parens(298, "b")+")", 2)
	right(t, syntax.Module, "module m; let a = "+parens(299, "a")+"; let b = "+parens(299, "a")+";")
	refused(t, syntax.Module, "module m; let a = "+parens(300, "a")+";", 318, api.ErrSyntaxNest)
}

// P7.2: 200 and 201 Lets, 100 and 101 Imports.
func TestManyRows(t *testing.T) {
	imports, lets := times(100, "import a;"), times(200, "let a=1;")
	m := "module m;"
	n := right(t, syntax.Module, m+imports+lets)
	if len(n.Kids) != 300 || n.Kids[99].Kind != api.NImport || n.Kids[100].Kind != api.NLet || n.Kids[299].At != len(m+imports+lets)-4 {
		t.Errorf("%d kids", len(n.Kids))
	}
	for _, more := range []string{"import a;", "import", "import 1", "import import", "import a;let a=1;"} {
		refused(t, syntax.Module, m+imports+more, len(m+imports), api.ErrSyntaxMany)
		refused(t, syntax.Module, m+imports+" # a\n"+more, len(m+imports)+5, api.ErrSyntaxMany)
	}
	for _, more := range []string{"let a=1;", "let", "let 1", "let let", "let a=" + sumOf(101)} {
		refused(t, syntax.Module, m+lets+more, len(m+lets), api.ErrSyntaxMany)
		refused(t, syntax.Module, m+imports+lets+" "+more, len(m+imports+lets)+1, api.ErrSyntaxMany)
	}
	refused(t, syntax.Module, m+imports+";", len(m+imports), api.ErrSyntaxToken)
	refused(t, syntax.Module, m+lets+"import a;", len(m+lets), api.ErrSyntaxToken)
	refused(t, syntax.Module, m+lets+";", len(m+lets), api.ErrSyntaxToken)
	refused(t, syntax.Module, m+imports+"import a"+"?", len(m+imports)+8, api.ErrSyntaxByte)
}

// P7.2: 8 and 9 Params or arguments.
func TestManyParams(t *testing.T) {
	let := "module m; let f(a,b,c,d,e,f,g,h"
	n := right(t, syntax.Module, let+") = 1;")
	if len(n.Kids[0].Kids) != 9 || n.Kids[0].Kids[7].Text != "h" || n.Kids[0].Kids[7].At != len(let)-1 {
		t.Error(told(n))
	}
	for _, more := range []string{",i) = 1;", ",i", ",i i", ",i=", ",i,j,k) = 1;"} {
		refused(t, syntax.Module, let+more, len(let)+1, api.ErrSyntaxMany)
		refused(t, syntax.Module, let+" "+more, len(let)+2, api.ErrSyntaxMany)
	}
	for _, more := range []string{",", ",)", ",,", ",if", ",1", ",a.b", ",EUR"} { // no Param, so none too much
		refused(t, syntax.Module, let+more, len(let)+1, api.ErrSyntaxToken)
	}
	for _, name := range []string{"f", "m.f"} {
		call := name + "(1,2,a,EUR,true,f(1),-1,if a then b else c"
		n = right(t, syntax.Expr, call+")")
		if n.Kind != api.NCall || len(n.Kids) != 8 {
			t.Error(told(n))
		}
		for _, more := range []string{",1)", ",1", ",(", ",f(", ",not", ",-", ",if", ",feed", ",pick", ",true", ",2026-10-31", ",EUR", ",m.f", ",1 1", ",(1" + times(400, "("), ",1,1)"} {
			refused(t, syntax.Expr, call+more, len(call)+1, api.ErrSyntaxMany)
			refused(t, syntax.Expr, "1+ "+call+more, len(call)+4, api.ErrSyntaxMany)
		}
		for _, more := range []string{",", ",)", ",,", ",then", ",+", ",\"a\"", ",let", ",;"} { // no argument, so none too much
			refused(t, syntax.Expr, call+more, len(call)+1, api.ErrSyntaxToken)
		}
		refused(t, syntax.Expr, call, len(call), api.ErrSyntaxToken)
		refused(t, syntax.Expr, call+" 1", len(call)+1, api.ErrSyntaxToken)
		right(t, syntax.Expr, "f("+call+"),"+call+"))")
	}
}
