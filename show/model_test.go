package show_test

import (
	"fmt"
	"math/big"
	"math/rand"
	"regexp"
	"strings"
	"testing"
	"time"

	"usance/api"
	"usance/show"
)

// rule is what the chapter asks of a Kind: its Text, its least and greatest N, how many kids.
type rule struct {
	text        *regexp.Regexp
	from, to    int64
	least, most int
}

const keywords = "module|import|let|if|then|else|and|or|not|true|false|feed|pick"

// rules are those of expressions, row by row.
func rules() map[int]rule {
	p := func(s string) *regexp.Regexp { return regexp.MustCompile(`\A(?:` + s + `)\z`) }
	part := `[a-z][a-z0-9_]{0,23}`
	none, use := p(``), p(part+`(?:\.`+part+`)?`)
	return map[int]rule{
		api.NNum: {none, 0, 1e15, 0, 0}, api.NDate: {none, 0, 73048, 0, 0}, api.NCur: {p(`[A-Z]{3}`), 0, 0, 0, 0}, api.NBool: {none, 0, 1, 0, 0},
		api.NFeed: {p(part), 0, 0, 0, 0}, api.NName: {use, 0, 0, 0, 0}, api.NCall: {use, 0, 0, 1, 8},
		api.NUnary: {p(`-|not`), 0, 0, 1, 1}, api.NBinary: {p(`or|and|<|<=|=|\+|-|\*|/`), 0, 0, 2, 2}, api.NIf: {none, 0, 0, 3, 3}, api.NPick: {p(part), 0, 0, 3, 3},
	}
}

// model tells by the chapter's words what is right.
type model struct {
	rules                     map[int]rule
	keyword, name, rows, kids *regexp.Regexp
}

func newModel() model {
	return model{
		rules: rules(), keyword: regexp.MustCompile(`(?:\A|\.)(?:` + keywords + `)(?:\.|\z)`), name: regexp.MustCompile(`\A[a-z][a-z0-9_]{0,23}\z`),
		rows: regexp.MustCompile(`\Ai{0,100}l{0,200}\z`), kids: regexp.MustCompile(`\Ap{0,8}e\z`),
	}
}

func depth(n api.Node) int {
	d := 0
	for _, k := range n.Kids {
		d = max(d, depth(k))
	}
	return d + 1
}

func count(n api.Node) int {
	c := 1
	for _, k := range n.Kids {
		c += count(k)
	}
	return c
}

// node: is a single node such as an expression has?
func (m model) node(n api.Node) bool {
	r, is := m.rules[n.Kind]
	use := n.Kind == api.NName || n.Kind == api.NCall
	return is && r.text.MatchString(n.Text) && r.from <= n.N && n.N <= r.to && r.least <= len(n.Kids) && len(n.Kids) <= r.most && !(use && m.keyword.MatchString(n.Text))
}

func (m model) nodes(n api.Node) bool {
	right := m.node(n)
	for _, k := range n.Kids {
		right = right && m.nodes(k)
	}
	return right
}

func (m model) expr(n api.Node) bool { return depth(n) <= 100 && count(n) <= 8192 && m.nodes(n) }

// kinds are a list's Kinds as letters.
func kinds(l []api.Node) string {
	out := ""
	for _, k := range l {
		switch k.Kind {
		case api.NImport:
			out += "i"
		case api.NLet:
			out += "l"
		case api.NParam:
			out += "p"
		default:
			out += "e"
		}
	}
	return out
}

func (m model) named(l ...api.Node) bool {
	right := true
	for _, n := range l {
		right = right && n.N == 0 && m.name.MatchString(n.Text) && !m.keyword.MatchString(n.Text)
	}
	return right
}

func (m model) module(n api.Node) bool {
	if n.Kind != api.NModule || !m.named(n) || !m.named(n.Kids...) || count(n) > 8192 || !m.rows.MatchString(kinds(n.Kids)) {
		return false
	}
	for _, k := range n.Kids {
		last := len(k.Kids) - 1
		if k.Kind == api.NImport && last >= 0 || k.Kind == api.NLet && (!m.kids.MatchString(kinds(k.Kids)) || !m.named(k.Kids[:last]...) || !m.expr(k.Kids[last])) {
			return false
		}
		for _, p := range k.Kids[:max(last, 0)] {
			if len(p.Kids) > 0 {
				return false
			}
		}
	}
	return true
}

func formsOf(l []api.Node) string {
	var out []string
	for _, k := range l {
		out = append(out, form(k))
	}
	return strings.Join(out, ", ")
}

func inner(n api.Node) string {
	if n.Kind == api.NUnary || n.Kind == api.NBinary || n.Kind == api.NIf {
		return "(" + form(n) + ")"
	}
	return form(n)
}

// form is the one form of a right tree, as the chapter says it.
func form(n api.Node) string {
	switch n.Kind {
	case api.NNum:
		return strings.TrimSuffix(strings.TrimRight(big.NewRat(n.N, 1000000).FloatString(6), "0"), ".")
	case api.NDate:
		return time.Date(1900, 1, 1+int(n.N), 0, 0, 0, 0, time.UTC).Format("2006-01-02")
	case api.NBool:
		return fmt.Sprint(n.N == 1)
	case api.NFeed:
		return fmt.Sprintf("feed %q", n.Text)
	case api.NCall:
		return fmt.Sprintf("%s(%s)", n.Text, formsOf(n.Kids))
	case api.NPick:
		return fmt.Sprintf("pick %q(%s)", n.Text, formsOf(n.Kids))
	case api.NIf:
		return fmt.Sprintf("if %s then %s else %s", form(n.Kids[0]), form(n.Kids[1]), form(n.Kids[2]))
	case api.NUnary:
		return map[string]string{"-": "-", "not": "not "}[n.Text] + inner(n.Kids[0])
	case api.NBinary:
		return inner(n.Kids[0]) + " " + n.Text + " " + inner(n.Kids[1])
	case api.NModule:
		out := "module " + n.Text + ";\n"
		for _, k := range n.Kids {
			out += form(k)
		}
		return out
	case api.NImport:
		return "import " + n.Text + ";\n"
	case api.NLet:
		last := len(n.Kids) - 1
		params := ""
		if last > 0 {
			params = "(" + formsOf(n.Kids[:last]) + ")"
		}
		return "let " + n.Text + params + " = " + form(n.Kids[last]) + ";\n"
	}
	return n.Text
}

// grower makes trees by chance, right ones but for what is then spoilt.
type grower struct{ *rand.Rand }

func (g grower) pick(l ...string) string { return l[g.Intn(len(l))] }

func (g grower) name() string {
	return g.pick("a", "b_1", "zero", "iff", "no", "x9", "abcdefghijklmnopqrstuvwx")
}

func (g grower) label() string { return g.pick("ex", "if", "module", g.name()) }

func (g grower) use() string {
	if g.Intn(3) == 0 {
		return g.name() + "." + g.name()
	}
	return g.name()
}

func (g grower) leaf() api.Node {
	switch g.Intn(6) {
	case 0:
		return number([]int64{0, 1, 1500000, 1e15, g.Int63n(1e15), g.Int63n(1000) * 1000000}[g.Intn(6)])
	case 1:
		return day([]int64{0, 73048, g.Int63n(73049)}[g.Intn(3)])
	case 2:
		return currency(g.pick("EUR", "USD", "AZA"))
	case 3:
		return truth(g.Int63n(2))
	case 4:
		return feed(g.label())
	}
	return name(g.use())
}

func (g grower) many(n, levels int) []api.Node {
	var out []api.Node
	for range n {
		out = append(out, g.expr(levels))
	}
	return out
}

func (g grower) expr(levels int) api.Node {
	if levels <= 0 || g.Intn(4) == 0 {
		return g.leaf()
	}
	switch levels--; g.Intn(6) {
	case 0:
		return unary(g.pick("-", "not"), g.expr(levels))
	case 1:
		return cond(g.expr(levels), g.expr(levels), g.expr(levels))
	case 2:
		return pick(g.label(), g.expr(levels), g.expr(levels), g.expr(levels))
	case 3:
		return call(g.use(), g.many(1+g.Intn(8), levels-1)...)
	}
	return binary(g.pick("or", "and", "<", "<=", "=", "+", "-", "*", "/"), g.expr(levels), g.expr(levels))
}

func (g grower) module() api.Node {
	n := module(g.name())
	for range g.Intn(4) {
		n.Kids = append(n.Kids, imported(g.name()))
	}
	for range g.Intn(5) {
		l := let(g.name())
		for range g.Intn(9) {
			l.Kids = append(l.Kids, param(g.name()))
		}
		l.Kids = append(l.Kids, g.expr(3))
		n.Kids = append(n.Kids, l)
	}
	return n
}

// spoil changes something of some node, so that the tree is often no right one.
func (g grower) spoil(n *api.Node) {
	if len(n.Kids) > 0 && g.Intn(4) > 0 {
		g.spoil(&n.Kids[g.Intn(len(n.Kids))])
		return
	}
	switch g.Intn(6) {
	case 0:
		n.Kind = g.Intn(18) - 1
	case 1:
		n.Text = g.pick("", "a", "if", "a.b", "a.if", "EUR", "EU", "-", "<", "not", "+", "a.", ".a", "a.b.c", "A", "_", "1", "a b", "abcdefghijklmnopqrstuvwxy")
	case 2:
		n.N = []int64{-1, 0, 1, 2, 73048, 73049, 1e15, 1e15 + 1}[g.Intn(8)]
	case 3:
		n.Kids = append(n.Kids, g.leaf())
	case 4:
		n.Kids = n.Kids[:max(len(n.Kids)-1, 0)]
	case 5:
		g.Shuffle(len(n.Kids), func(i, j int) { n.Kids[i], n.Kids[j] = n.Kids[j], n.Kids[i] })
	}
}

// P9.1: trees by chance, spoilt or not, held against the chapter's words.
func TestAnyTrees(t *testing.T) {
	m, g := newModel(), grower{rand.New(rand.NewSource(9))}
	seen := map[string]int{}
	for i := range 20000 {
		n, what, right, shown, want := g.expr(4), "expression", show.RightExpr, show.Expr, m.expr
		if i%2 == 0 {
			n, what, right, shown, want = g.module(), "module", show.Right, show.Module, m.module
		}
		for range g.Intn(3) {
			g.spoil(&n)
		}
		text, e := "", api.ErrShowForm
		if want(n) {
			text, e = form(n), api.OK
		}
		if gotText, got := shown(n); right(n) != want(n) || got != e || gotText != text {
			t.Fatalf("%s %v: %t, %q, %v, want %q, %v", what, n, right(n), gotText, got, text, e)
		}
		seen[what+" "+fmt.Sprint(e == api.OK)]++
	}
	for _, s := range []string{"expression true", "expression false", "module true", "module false"} {
		if seen[s] < 1000 {
			t.Errorf("%s: but %d trees", s, seen[s])
		}
	}
}
