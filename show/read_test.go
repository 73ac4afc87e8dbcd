package show_test

import (
	"fmt"
	"math/rand"
	"regexp"
	"strings"
	"testing"

	"usance/api"
	"usance/show"
	"usance/syntax"
)

// readBack checks that a right tree's form is read as that tree.
func readBack(t *testing.T, n api.Node) {
	t.Helper()
	shown, read := show.Expr, syntax.Expr
	if n.Kind == api.NModule {
		shown, read = show.Module, syntax.Module
	}
	s, e := shown(n)
	if e != api.OK {
		t.Errorf("%.80s: %v", fmt.Sprint(n), e)
		return
	}
	if m, at, e := read(s); e != api.OK || !show.Same(n, m) {
		t.Errorf("%.80q: %v at %d", s, e, at)
	}
}

// notRead checks that a right tree's form is too long to be read.
func notRead(t *testing.T, n api.Node, want api.Errno) {
	t.Helper()
	s, e := show.Expr(n)
	if e != api.OK || !show.RightExpr(n) || s != form(n) {
		t.Errorf("%.80q: %v", s, e)
	}
	if _, _, e := syntax.Expr(s); e != want {
		t.Errorf("%.80q: read: %v, want %v", s, e, want)
	}
}

// smalls are all right expressions of a few leaves and a depth of at most 2, and some of a depth of 3.
func smalls() []api.Node {
	leaves := []api.Node{name("a"), name("a.b"), number(1000000), day(0), currency("EUR"), truth(0), feed("a")}
	out := append([]api.Node{}, leaves...)
	for _, a := range leaves {
		out = append(out, unary("-", a), unary("not", a), call("a", a), call("a.b", a))
		for _, b := range leaves {
			out = append(out, call("a", a, b))
			for _, sign := range []string{"or", "and", "<", "<=", "=", "+", "-", "*", "/"} {
				out = append(out, binary(sign, a, b))
			}
			for _, c := range leaves[:3] {
				out = append(out, cond(a, b, c), pick("a", a, b, c), call("a", a, b, c))
			}
		}
	}
	for i, n := range out[:len(out):len(out)] {
		m := out[(i*7+3)%len(out)]
		out = append(out, unary("-", unary("not", n)), binary("-", n, name("b")), binary("-", name("b"), binary("<", n, m)), cond(n, m, binary("*", m, n)), call("b", n, m), pick("b", n, m, n))
	}
	return out
}

// P9.3: each of these is read back, and no two have one form.
func TestSmallTrees(t *testing.T) {
	all := smalls()
	var forms []string
	first := map[string]int{}
	for i, n := range all {
		readBack(t, n)
		s, _ := show.Expr(n)
		forms = append(forms, s)
		if j, was := first[s]; was && !show.Same(n, all[j]) {
			t.Errorf("two trees: %q", s)
		}
		first[s] = i
	}
	for i := range 1000 {
		for j := range 1000 {
			if show.Same(all[i], all[j]) != (forms[i] == forms[j]) {
				t.Fatalf("%q, %q", forms[i], forms[j])
			}
		}
	}
}

// P9.3: trees by chance are read back.
func TestAnyTreeIsReadBack(t *testing.T) {
	g := grower{rand.New(rand.NewSource(93))}
	for range 3000 {
		if n := g.expr(4); len(form(n)) <= api.MaxSource {
			readBack(t, n)
		}
		if n := g.module(); len(form(n)) <= api.MaxSource {
			readBack(t, n)
		}
	}
}

// P9.3: what is read is right: texts by chance, of which something was left out, doubled or moved.
func TestWhatIsReadIsRight(t *testing.T) {
	g := grower{rand.New(rand.NewSource(94))}
	piece := regexp.MustCompile(`"[^"]*"|[a-z][a-z0-9_.]*|[A-Z]+|[0-9.-]+|<=|.`)
	read := map[bool]int{}
	for i := range 20000 {
		n, reads, rights := g.expr(3), syntax.Expr, show.RightExpr
		if i%4 == 0 {
			n, reads, rights = g.module(), syntax.Module, show.Right
		}
		pieces := piece.FindAllString(strings.ReplaceAll(form(n), "\n", " "), -1)
		for range g.Intn(4) {
			at, from := g.Intn(len(pieces)), g.Intn(len(pieces))
			switch g.Intn(4) {
			case 0:
				pieces[at] = " "
			case 1:
				pieces[at] = pieces[from]
			case 2:
				pieces[at] += pieces[from]
			case 3:
				pieces[at] = g.pick("(", ")", "-", " not ", " a + ", ",", "b", " if a then b else ", "1.50", `feed "not"`)
			}
		}
		m, _, e := reads(strings.Join(pieces, ""))
		if e == api.OK && !rights(m) {
			t.Fatalf("%q is read, but not right", strings.Join(pieces, ""))
		}
		if e == api.OK && len(form(m)) <= api.MaxSource {
			readBack(t, m)
		}
		read[e == api.OK]++
	}
	if read[true] < 2000 || read[false] < 2000 {
		t.Error(read)
	}
}

// P9.3: what is read at layer 7's limits is right.
func TestReadAtLimits(t *testing.T) {
	times := func(n int, s string) string { return strings.Repeat(s, n) }
	long := times(24, "a")
	for _, s := range []string{
		times(299, "(") + "a" + times(299, ")"), times(99, "-") + "a", times(99, "not ") + "a", "a" + times(99, " - a"), "a" + times(99, " or a"),
		times(99, "f(") + "1" + times(99, ")"), times(99, "if a then b else ") + "c", times(99, "if ") + "a" + times(99, " then b else c"),
		"f(1,2,3,4,5,6,7,8)", "1000000000", "1000000000.000000", "0.000001", "0.0", "1900-01-01", "2099-12-31", long + "." + long, `feed "` + long + `"`, `feed "if"`, `pick "module"(a,b,c)`,
		"f(" + times(7, "f(a,a,a,a,a,a,a,f(a,a,a,a,a,a,a,a)),") + "a)", "-1 + -1 * -a < -b and not c = d or e",
	} {
		n, at, e := syntax.Expr(s)
		if e != api.OK || !show.RightExpr(n) {
			t.Errorf("%.80q: %v at %d, %t", s, e, at, show.RightExpr(n))
		}
		readBack(t, n)
	}
	// As many tokens as may be, nearly all of which make a node.
	deep := "module m;" + times(78, "let f="+times(99, "-")+"a;")
	deep += "let g(p)=" + times(69, "-") + "a;"
	flat := "module m;" + times(100, "import n;") + "let f=a" + times(16, "+a") + ";" + times(54, "let f=-a"+times(16, "+a")+";") + times(145, "let f=-a"+times(17, "+a")+";")
	for _, s := range []string{deep, flat} {
		n, at, e := syntax.Module(s)
		if e != api.OK || !show.Right(n) || tokens(s) != 8192 {
			t.Errorf("%.80q: %v at %d, %t, %d nodes, %d tokens", s, e, at, show.Right(n), count(n), tokens(s))
		}
	}
}

// tokens is how many tokens a form has.
func tokens(s string) int {
	return len(regexp.MustCompile(`"[^"]*"|[a-z][a-z0-9_.]*|[A-Z]{3}|[0-9]{4}-[0-9]{2}-[0-9]{2}|[0-9.]+|<=|[^\s]`).FindAllString(s, -1))
}

// longer lengthens names of leaves until a form has so many bytes more.
func longer(n *api.Node, more int) int {
	if n.Kind == api.NName {
		by := min(more, api.MaxName-len(n.Text))
		n.Text += strings.Repeat("a", by)
		return more - by
	}
	for i := range n.Kids {
		more = longer(&n.Kids[i], more)
	}
	return more
}

// turned makes Unaries of leaves: each a token more.
func turned(n *api.Node, more int) int {
	if more > 0 && n.Kind == api.NName {
		*n = unary("-", *n)
		return more - 1
	}
	for i := range n.Kids {
		if n.Kind != api.NUnary {
			more = turned(&n.Kids[i], more)
		}
	}
	return more
}

// P9.3: forms of MaxSource bytes are read back, those of one more are not; they are written all the same.
func TestLongForms(t *testing.T) {
	n := wide(1500)
	if longer(&n, api.MaxSource-len(form(n))) != 0 || len(form(n)) != 16384 {
		t.Fatal(len(form(n)))
	}
	readBack(t, n)
	longer(&n, 1)
	if len(form(n)) != 16385 {
		t.Fatal(len(form(n)))
	}
	notRead(t, n, api.ErrSyntaxLong)
	all := wide(8192)
	longer(&all, 1<<30)
	notRead(t, all, api.ErrSyntaxLong)
	m := module("m", let("f", n))
	rightModule(t, m, form(m))
	if _, _, e := syntax.Module(form(m)); e != api.ErrSyntaxLong {
		t.Error(e)
	}
}

// P9.3: forms of MaxTokens tokens are read back, those of one more are not; they are written all the same.
func TestFormsOfManyTokens(t *testing.T) {
	n := wide(3500)
	if turned(&n, api.MaxTokens-tokens(form(n))) != 0 || tokens(form(n)) != 8192 || len(form(n)) > api.MaxSource {
		t.Fatal(tokens(form(n)), len(form(n)))
	}
	readBack(t, n)
	turned(&n, 1)
	if tokens(form(n)) != 8193 {
		t.Fatal(tokens(form(n)))
	}
	notRead(t, n, api.ErrSyntaxMany)
}

// P9.3: two right trees that are too long to be read are the same just if their forms are.
func TestLongFormsTellTreesApart(t *testing.T) {
	n := wide(8192)
	s, _ := show.Expr(n)
	for _, change := range []func(*api.Node){
		func(m *api.Node) { m.At = 1 },
		func(m *api.Node) { longer(m, 1) },
		func(m *api.Node) { turned(&m.Kids[7].Kids[0], 1); m.Kids[7].Kids = m.Kids[7].Kids[:7] },
		func(m *api.Node) { m.Kids[3].Text = "g" },
	} {
		m := copied(n)
		change(&m)
		r, e := show.Expr(m)
		if e != api.OK || show.Same(n, m) != (s == r) {
			t.Error(e, show.Same(n, m), s == r)
		}
	}
}
