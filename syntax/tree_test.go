package syntax_test

import (
	"math/rand"
	"slices"
	"strconv"
	"strings"
	"testing"

	"usance/api"
	"usance/syntax"
)

// span is an expression's node, and which of the tokens it was written with.
type span struct {
	node       api.Node // its places are tokens' numbers
	from, past int
}

// writer writes trees by chance, row by row, as tokens.
type writer struct {
	r      *rand.Rand
	tokens []string
	spans  []span
	left   int // how many operands may still be written
}

func (w *writer) put(s string) int {
	w.tokens = append(w.tokens, s)
	return len(w.tokens) - 1
}

// coin is true at times, as long as there is room.
func (w *writer) coin(n int) bool { return w.left > 0 && w.r.Intn(n) == 0 }

// done keeps a node as one whose text begins at a token and ends here.
func (w *writer) done(n api.Node, from int) api.Node {
	w.spans = append(w.spans, span{n, from, len(w.tokens)})
	return n
}

func (w *writer) name() string { return []string{"a", "b_1", "eur", "zero", "x9"}[w.r.Intn(5)] }

func (w *writer) expr() api.Node {
	if !w.coin(6) {
		return w.chain(0)
	}
	n := api.Node{Kind: api.NIf, At: w.put("if")}
	n.Kids = append(n.Kids, w.expr())
	w.put("then")
	n.Kids = append(n.Kids, w.expr())
	w.put("else")
	n.Kids = append(n.Kids, w.expr())
	return w.done(n, n.At)
}

// chain writes Or, And, Not, Rel, Sum, Prod, Unary, by levels from 0 on.
func (w *writer) chain(level int) api.Node {
	words := [][]string{{"or"}, {"and"}, {"not"}, {"<", "<=", "="}, {"+", "-"}, {"*", "/"}, {"-"}}
	if level == len(words) {
		return w.atom()
	}
	from := len(w.tokens)
	if level == 2 || level == 6 {
		if !w.coin(5) {
			return w.chain(level + 1)
		}
		w.left--
		n := api.Node{Kind: api.NUnary, Text: words[level][0], At: w.put(words[level][0])}
		n.Kids = []api.Node{w.chain(level)}
		return w.done(n, from)
	}
	n := w.chain(level + 1)
	for w.coin(4) {
		word := words[level][w.r.Intn(len(words[level]))]
		at := w.put(word)
		right := w.chain(level + 1)
		n = w.done(api.Node{Kind: api.NBinary, Text: word, Kids: []api.Node{n, right}, At: at}, from)
		if level == 3 {
			break
		}
	}
	return n
}

func (w *writer) atom() api.Node {
	w.left--
	from := len(w.tokens)
	leaf := func(n api.Node, s string) api.Node {
		n.At = w.put(s)
		return w.done(n, from)
	}
	switch w.r.Intn(12) {
	case 0:
		return leaf(api.Node{Kind: api.NNum, N: 1500000}, "1.5")
	case 1:
		n := w.r.Intn(3000)
		return leaf(api.Node{Kind: api.NNum, N: int64(n) * api.One}, strconv.Itoa(n))
	case 2:
		return leaf(api.Node{Kind: api.NDate, N: 46324}, "2026-10-31")
	case 3:
		return leaf(api.Node{Kind: api.NCur, Text: "EUR"}, "EUR")
	case 4:
		return leaf(api.Node{Kind: api.NBool, N: 1}, "true")
	case 5:
		return leaf(api.Node{Kind: api.NBool}, "false")
	case 6:
		n := api.Node{Kind: api.NFeed, Text: w.name(), At: w.put("feed")}
		w.put(`"` + n.Text + `"`)
		return w.done(n, from)
	case 7:
		n := api.Node{Kind: api.NPick, Text: w.name(), At: w.put("pick")}
		w.put(`"` + n.Text + `"`)
		n.Kids = w.list(3, w.expr)
		return w.done(n, from)
	case 8, 9:
		n := api.Node{Kind: api.NCall, Text: w.name()}
		if w.r.Intn(2) == 0 {
			n.Text += "." + w.name()
		}
		n.At = w.put(n.Text)
		n.Kids = w.list(1+w.r.Intn(3), w.expr)
		return w.done(n, from)
	case 10:
		w.put("(")
		n := w.expr()
		w.put(")")
		return w.done(n, from)
	}
	s := w.name()
	return leaf(api.Node{Kind: api.NName, Text: s}, s)
}

// list writes so many of something, in parentheses.
func (w *writer) list(n int, one func() api.Node) []api.Node {
	var out []api.Node
	w.put("(")
	for i := range n {
		if i > 0 {
			w.put(",")
		}
		out = append(out, one())
	}
	w.put(")")
	return out
}

func (w *writer) module() api.Node {
	name := func(k int) api.Node {
		n := api.Node{Kind: k, Text: w.name()}
		n.At = w.put(n.Text)
		return n
	}
	at := w.put("module")
	m := name(api.NModule)
	m.At = at
	w.put(";")
	for range w.r.Intn(3) {
		w.put("import")
		m.Kids = append(m.Kids, name(api.NImport))
		w.put(";")
	}
	for range w.r.Intn(4) {
		w.put("let")
		n := name(api.NLet)
		if w.r.Intn(2) == 0 {
			n.Kids = w.list(1+w.r.Intn(8), func() api.Node { return name(api.NParam) })
		}
		w.put("=")
		w.left = 12
		n.Kids = append(n.Kids, w.expr())
		w.put(";")
		m.Kids = append(m.Kids, n)
	}
	return m
}

// text lays tokens with blanks and remarks between, and tells where each begins and ends.
func (w *writer) text() (string, []int, []int) {
	var s string
	var at, past []int
	for i, t := range w.tokens {
		// What may touch what is told by few tokens that never run into others.
		touch := i > 0 && w.r.Intn(2) == 0 && (strings.Contains("(),;+*/", t[:1]) || strings.Contains("(),;+*/\"", s[len(s)-1:]))
		if !touch {
			s += w.gap()
		}
		at = append(at, len(s))
		s += t
		past = append(past, len(s))
	}
	return s + w.gap(), at, past
}

func (w *writer) gap() string {
	gaps := []string{" ", "  ", "\n", "\t\r\n", "\x00\x1f", "#\n", " # if \"?\xff ( 2026\n"}
	s := gaps[w.r.Intn(len(gaps))]
	if w.r.Intn(5) == 0 {
		return s + w.gap()
	}
	return s
}

// placed is a tree whose places are those in a text.
func placed(n api.Node, at []int) api.Node {
	n.At = at[n.At]
	n.Kids = slices.Clone(n.Kids)
	for i := range n.Kids {
		n.Kids[i] = placed(n.Kids[i], at)
	}
	return n
}

// P7.2, P7.3: trees by chance are read from what they were written as, whatever blanks and remarks there are; so is each part from its part, and within parentheses.
func TestAnyTrees(t *testing.T) {
	r := rand.New(rand.NewSource(9))
	kinds := map[int]int{}
	for range 1000 {
		w := &writer{r: r, left: 1 + r.Intn(15)}
		want := w.expr()
		s, at, past := w.text()
		reads(t, syntax.Expr, s, told(placed(want, at)))
		reads(t, syntax.Expr, "(#a\n("+s+"))", told(moved(placed(want, at), 5)))
		for _, x := range w.spans {
			kinds[x.node.Kind]++
			part := s[at[x.from]:past[x.past-1]]
			reads(t, syntax.Expr, part, told(moved(placed(x.node, at), -at[x.from])))
			// With parentheses about a part the rest stays the same.
			in := s[:at[x.from]] + "(" + part + ")" + s[past[x.past-1]:]
			shape := told(placeless(want))
			if n, _, e := syntax.Expr(in); e != api.OK || told(placeless(n)) != shape {
				t.Errorf("%q: %s, %v, want %s", in, told(placeless(n)), e, shape)
			}
		}
		if t.Failed() {
			return
		}
	}
	for k := api.NNum; k <= api.NPick; k++ {
		if kinds[k] < 50 {
			t.Errorf("kind %d: but %d", k, kinds[k])
		}
	}
}

// P7.2, P7.3
func TestAnyModules(t *testing.T) {
	r := rand.New(rand.NewSource(10))
	for range 2000 {
		w := &writer{r: r}
		want := w.module()
		s, at, _ := w.text()
		reads(t, syntax.Module, s, told(placed(want, at)))
		if t.Failed() {
			return
		}
	}
}

// P7.2: where a text that is right ends too early, or has one token more, another, or one less, held against the rows.
func TestSpoiltModules(t *testing.T) {
	r, l, rules := rand.New(rand.NewSource(11)), newLexer(), grammar()
	some := strings.Fields("a x.y 1 2026-10-31 EUR \"a\" ( ) , ; = < <= + - * / module import let if then else and or not true feed pick")
	wrong := 0
	for range 1000 {
		w := &writer{r: r, left: 6}
		row, f := "Expr", syntax.Expr
		if r.Intn(2) == 0 {
			row, f = "Module", syntax.Module
			w.module()
		} else {
			w.expr()
		}
		i := r.Intn(len(w.tokens))
		switch r.Intn(4) {
		case 0:
			w.tokens = w.tokens[:i+1]
		case 1:
			w.tokens = slices.Insert(w.tokens, i, some[r.Intn(len(some))])
		case 2:
			w.tokens[i] = some[r.Intn(len(some))]
		case 3:
			w.tokens = slices.Delete(w.tokens, i, i+1)
		}
		s, _, _ := w.text()
		wantAt, want := judge(l, rules, row, s)
		if _, at, e := f(s); at != wantAt || e != want {
			t.Fatalf("%s %q: %d, %v, want %d, %v", row, s, at, e, wantAt, want)
		}
		if want != api.OK {
			wrong++
		}
	}
	if wrong < 300 {
		t.Errorf("but %d wrong texts", wrong)
	}
}
