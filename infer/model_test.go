package infer_test

import (
	"fmt"
	"math/rand"
	"reflect"
	"slices"
	"strings"
	"testing"

	"usance/api"
	"usance/infer"
)

const ground = 5 // types that are no variables

// meaning is what a name means: how many parameters it has, and all its types, each parameters' and the result's, without variables.
type meaning struct {
	params  int
	typings [][]int
}

// meant is what one gets by putting types for a scheme's variables.
func meant(s api.Scheme) meaning {
	row := append(slices.Clone(s.Params), s.Result)
	out := meaning{params: len(s.Params), typings: [][]int{row}}
	for v := api.TVar; v <= api.TVar+15; v++ {
		if !slices.Contains(row, v) {
			continue
		}
		var next [][]int
		for _, old := range out.typings {
			for t := range ground {
				put := slices.Clone(old)
				for i := range put {
					if put[i] == v {
						put[i] = t
					}
				}
				next = append(next, put)
			}
		}
		out.typings = next
	}
	return out
}

// builtIns are those of the chapter, and (by other words) what the other nodes are a use of.
func builtIns() map[string]meaning {
	out := map[string]meaning{}
	words := map[string]int{"number": 0, "truth": 1, "day": 2, "currency": 3, "contract": 4, "a": 5}
	for _, row := range strings.Split(`now day|zero contract|one currency contract|give contract contract|scale number contract contract|both contract contract contract|at day contract contract
when day truth contract contract|ago number a a|plus day number day|months day number day|years day day number|years30 day day number|before day day truth
5 number|9 number|8 truth|6 day|7 currency|12- number number|12not truth truth|13or truth truth truth|13and truth truth truth|13< number number truth|13<= number number truth
13= number number truth|13+ number number number|13- number number number|13* number number number|13/ number number number|14 truth a a a|15 day contract contract contract`, "|") {
		for _, line := range strings.Split(row, "\n") {
			f := strings.Fields(line)
			s := api.Scheme{Result: words[f[len(f)-1]]}
			for _, p := range f[1 : len(f)-1] {
				s.Params = append(s.Params, words[p])
			}
			out[f[0]] = meant(s)
		}
	}
	return out
}

// wrong is a fault and its place.
type wrong struct {
	e  api.Errno
	at int
}

// model finds all types of definitions by trying all. A world says which types a definition's parameters have.
type model struct {
	known  map[string]meaning
	params []string
}

func (m *model) worlds() int {
	n := 1
	for range m.params {
		n *= ground
	}
	return n
}

// of is a parameter's type in a world.
func of(world, param int) int {
	for range param {
		world /= ground
	}
	return world % ground
}

// meaning of a node: its own, or that of a name; or what is wrong with that.
func (m *model) meaning(n api.Node) (meaning, wrong) {
	if n.Kind != api.NName && n.Kind != api.NCall {
		text := n.Text
		if n.Kind != api.NUnary && n.Kind != api.NBinary {
			text = ""
		}
		return m.known[fmt.Sprint(n.Kind)+text], wrong{}
	}
	out, is := m.known[n.Text]
	if !is {
		return out, wrong{api.ErrInferName, n.At}
	}
	if out.params != len(n.Kids) {
		return out, wrong{api.ErrInferArgs, n.At}
	}
	return out, wrong{}
}

// expr are, by worlds that there may be, the types that an expression may have there (a bit for each).
func (m *model) expr(n api.Node, may []bool) ([]int, wrong) {
	out := make([]int, len(may))
	use := n.Kind == api.NName || n.Kind == api.NCall
	if p := slices.Index(m.params, n.Text); use && p >= 0 {
		for w := range may {
			if may[w] {
				out[w] = 1 << of(w, p)
			}
		}
		if len(n.Kids) > 0 {
			return nil, wrong{api.ErrInferArgs, n.At}
		}
		return out, wrong{}
	}
	means, bad := m.meaning(n)
	if bad.e != 0 {
		return nil, bad
	}
	left := make([][][]int, len(may))
	for w := range may {
		if may[w] {
			left[w] = means.typings
		}
	}
	for i, kid := range n.Kids {
		if bad := m.kid(kid, i, left); bad.e != 0 {
			return nil, bad
		}
	}
	for w := range left {
		for _, typing := range left[w] {
			out[w] |= 1 << typing[means.params]
		}
	}
	return out, wrong{}
}

// kid leaves, in each world, those typings whose i-th type the kid may have.
func (m *model) kid(n api.Node, i int, left [][][]int) wrong {
	may := make([]bool, len(left))
	for w := range left {
		may[w] = len(left[w]) > 0
	}
	has, bad := m.expr(n, may)
	if bad.e != 0 {
		return bad
	}
	some := false
	for w := range left {
		var stay [][]int
		for _, typing := range left[w] {
			if has[w]>>typing[i]&1 == 1 {
				stay = append(stay, typing)
			}
		}
		left[w] = stay
		some = some || len(stay) > 0
	}
	if !some {
		return wrong{api.ErrInferType, n.At}
	}
	return wrong{}
}

// module are a module's definitions' names and meanings, or what is wrong.
func (m *model) module(n api.Node, sheets []api.Sheet) ([]meaning, wrong) {
	var out []meaning
	taken := []string{n.Text}
	for _, row := range n.Kids {
		m.params = nil
		bad := wrong{}
		if row.Kind == api.NImport {
			bad = m.imported(row, taken, sheets)
			taken = append(taken, row.Text)
		} else {
			bad = m.let(row)
			out = append(out, m.known[row.Text])
		}
		if bad.e != 0 {
			return nil, bad
		}
	}
	return out, wrong{}
}

func (m *model) imported(n api.Node, taken []string, sheets []api.Sheet) wrong {
	if slices.Contains(taken, n.Text) {
		return wrong{api.ErrInferTwice, n.At}
	}
	i := slices.IndexFunc(sheets, func(s api.Sheet) bool { return s.Name == n.Text })
	if i < 0 {
		return wrong{api.ErrInferImport, n.At}
	}
	for _, d := range slices.Backward(sheets[i].Defs) {
		m.known[n.Text+"."+d.Name] = meant(d)
	}
	return wrong{}
}

func (m *model) let(n api.Node) wrong {
	if _, is := m.known[n.Text]; is {
		return wrong{api.ErrInferTwice, n.At}
	}
	last := len(n.Kids) - 1
	for _, p := range n.Kids[:last] {
		if slices.Contains(m.params, p.Text) {
			return wrong{api.ErrInferTwice, p.At}
		}
		m.params = append(m.params, p.Text)
	}
	has, bad := m.expr(n.Kids[last], slices.Repeat([]bool{true}, m.worlds()))
	out := meaning{params: last}
	for w := range has {
		for t := range ground {
			row := []int{}
			for p := range m.params {
				row = append(row, of(w, p))
			}
			if has[w]>>t&1 == 1 {
				out.typings = append(out.typings, append(row, t))
			}
		}
	}
	m.known[n.Text] = out
	return bad
}

// inOrder: do a scheme's variables count from TVar on, as they first stand?
func inOrder(s api.Scheme) bool {
	next := api.TVar
	for _, t := range append(slices.Clone(s.Params), s.Result) {
		if t > next || t < 0 {
			return false
		}
		if t == next {
			next++
		}
	}
	return true
}

func sorted(l [][]int) [][]int {
	l = slices.Clone(l)
	slices.SortFunc(l, func(a, b []int) int { return slices.Compare(a, b) })
	return l
}

// grower makes modules by chance, most of whose parts have the types that they must have.
type grower struct {
	*rand.Rand
	at     int
	odd    int // one choice among so many is a wrong one
	sheets []api.Sheet
	known  []api.Scheme
	params []api.Scheme
}

func newGrower(r *rand.Rand) *grower {
	g := &grower{Rand: r, at: r.Intn(100) - 50, odd: []int{15, 100, 100000}[r.Intn(3)]}
	for i := range r.Intn(4) {
		s := api.Sheet{Name: fmt.Sprint("n", i%2)}
		for range r.Intn(4) {
			d := api.Scheme{Name: g.text("d", "e", "now"), Result: g.sort(21)}
			for range r.Intn(4) {
				d.Params = append(d.Params, g.sort(21))
			}
			s.Defs = append(s.Defs, d)
		}
		g.sheets = append(g.sheets, s)
	}
	return g
}

func (g *grower) isOdd() bool { return g.Intn(g.odd) == 0 }

func (g *grower) text(l ...string) string { return l[g.Intn(len(l))] }

// sort is a type below n; small ones come often.
func (g *grower) sort(n int) int { return g.Intn([]int{5, 7, n}[g.Intn(3)]) }

// node is one at a place of its own.
func (g *grower) node(kind int, text string, n int64, kids ...api.Node) api.Node {
	g.at += 1 + g.Intn(3)
	return api.Node{Kind: kind, Text: text, N: n, Kids: kids, At: g.at}
}

func (g *grower) module() api.Node {
	n := g.node(api.NModule, "m", 0)
	g.addKnown("now", 2)
	g.addKnown("zero", 4)
	g.addKnown("one", 4, 3)
	g.addKnown("ago", 5, 0, 5)
	g.addKnown("plus", 2, 2, 0)
	g.addKnown("before", 1, 2, 2)
	g.addKnown("years30", 0, 2, 2)
	g.addKnown("scale", 4, 0, 4)
	g.addKnown("when", 4, 2, 1, 4)
	for i, s := range g.sheets {
		if i < 2 && g.Intn(4) > 0 {
			n.Kids = append(n.Kids, g.node(api.NImport, s.Name, 0))
			for _, d := range s.Defs {
				g.addKnown(s.Name+"."+d.Name, d.Result, d.Params...)
			}
		}
		if g.isOdd() {
			n.Kids = append(n.Kids, g.node(api.NImport, g.text("m", "n0", "n1", "n9"), 0))
		}
	}
	for i := range g.Intn(5) {
		n.Kids = append(n.Kids, g.let(fmt.Sprint("f", i)))
	}
	return n
}

func (g *grower) addKnown(name string, result int, params ...int) {
	g.known = append(g.known, api.Scheme{Name: name, Params: params, Result: result})
}

func (g *grower) let(name string) api.Node {
	if g.isOdd() {
		name = g.text("f0", "now", "years", "x")
	}
	n := g.node(api.NLet, name, 0)
	g.params = nil
	s := api.Scheme{Name: name, Result: g.sort(8)}
	for _, p := range g.Perm(5)[:g.Intn(4)] {
		t := g.sort(8)
		text := []string{"x", "y", "now", "f0", "f1"}[p]
		if g.isOdd() {
			text = "x"
		}
		g.params = append(g.params, api.Scheme{Name: text, Result: t})
		s.Params = append(s.Params, t)
		n.Kids = append(n.Kids, g.node(api.NParam, text, 0))
	}
	if s.Result >= api.TVar && len(g.params) > 0 {
		s.Result = g.params[g.Intn(len(g.params))].Result
	}
	n.Kids = append(n.Kids, g.expr(s.Result, 1+g.Intn(5)))
	g.known = append(g.known, s)
	return n
}

// expr is mostly one of a type.
func (g *grower) expr(t, levels int) api.Node {
	if g.isOdd() {
		t = g.sort(8)
	}
	if g.isOdd() {
		return g.node(api.NName, g.text("none", "n0.d", "one", "f0", "f9", "x", "m.f0"), 0)
	}
	switch g.Intn(4) {
	case 0:
		if n, is := g.use(t, levels, g.params); is {
			return n
		}
	case 1:
		if n, is := g.use(t, levels, g.known); is {
			return n
		}
	case 2:
		if levels > 0 {
			return g.node(api.NIf, "", 0, g.expr(api.TBool, levels-1), g.expr(t, levels-1), g.expr(t, levels-1))
		}
	}
	return g.form(t, levels)
}

// use is one of some schemes that may have a type.
func (g *grower) use(t, levels int, among []api.Scheme) (api.Node, bool) {
	for _, i := range g.Perm(len(among)) {
		s := among[i]
		own := map[int]int{s.Result: t}
		if s.Result != t && s.Result < api.TVar || levels <= 0 && len(s.Params) > 0 {
			continue
		}
		var kids []api.Node
		for _, p := range s.Params {
			if _, is := own[p]; !is && p >= api.TVar {
				own[p] = g.sort(8)
			} else if p < api.TVar {
				own[p] = p
			}
			kids = append(kids, g.expr(own[p], levels-1))
		}
		if g.isOdd() {
			kids = append(kids, g.expr(g.sort(8), 0))
		}
		if len(kids) == 0 {
			return g.node(api.NName, s.Name, 0), true
		}
		return g.node(api.NCall, s.Name, 0, kids...), true
	}
	return api.Node{}, false
}

// form is another Kind of a type.
func (g *grower) form(t, levels int) api.Node {
	sub := func(t int) api.Node { return g.expr(t, levels-1) }
	if levels <= 0 {
		return g.leaf(t)
	}
	switch {
	case t == api.TNum && g.Intn(3) == 0:
		return g.node(api.NUnary, "-", 0, sub(api.TNum))
	case t == api.TNum && g.Intn(2) == 0:
		return g.node(api.NBinary, g.text("+", "-", "*", "/"), 0, sub(api.TNum), sub(api.TNum))
	case t == api.TBool && g.Intn(4) == 0:
		return g.node(api.NUnary, "not", 0, sub(api.TBool))
	case t == api.TBool && g.Intn(3) == 0:
		return g.node(api.NBinary, g.text("<", "<=", "="), 0, sub(api.TNum), sub(api.TNum))
	case t == api.TBool && g.Intn(2) == 0:
		return g.node(api.NBinary, g.text("or", "and"), 0, sub(api.TBool), sub(api.TBool))
	case t == api.TContract && g.Intn(2) == 0:
		return g.node(api.NPick, "p", 0, sub(api.TDate), sub(api.TContract), sub(api.TContract))
	}
	return g.leaf(t)
}

func (g *grower) leaf(t int) api.Node {
	switch t {
	case api.TNum:
		return []api.Node{g.node(api.NNum, "", 5), g.node(api.NFeed, "eur", 0)}[g.Intn(2)]
	case api.TBool:
		return g.node(api.NBool, "", g.Int63n(2))
	case api.TDate:
		return g.node(api.NDate, "", 9)
	case api.TCur:
		return g.node(api.NCur, "EUR", 0)
	case api.TContract:
		return g.node(api.NName, "zero", 0)
	}
	if n, is := g.use(t, 0, g.params); is {
		return n
	}
	return g.leaf(g.Intn(ground))
}

// P11.1, P11.2: modules by chance, held against all types that there are.
func TestAnyModules(t *testing.T) {
	r := rand.New(rand.NewSource(1))
	seen := map[api.Errno]int{}
	general := 0
	for range 20000 {
		g := newGrower(r)
		n := g.module()
		m := &model{known: builtIns()}
		want, bad := m.module(n, g.sheets)
		s, at, e := infer.Module(n, g.sheets)
		if e != bad.e || at != bad.at || len(s.Defs) != len(want) {
			t.Fatalf("%v, %v: %s, %d, %v, want %v", n, g.sheets, shown(s), at, e, bad)
		}
		lets := slices.DeleteFunc(slices.Clone(n.Kids), func(n api.Node) bool { return n.Kind == api.NImport })
		for i, d := range s.Defs {
			if d.Name != lets[i].Text || len(d.Params) != want[i].params || !inOrder(d) || !reflect.DeepEqual(sorted(meant(d).typings), sorted(want[i].typings)) {
				t.Fatalf("%v, %v: %s, want %v", lets[i], g.sheets, infer.Show(d), want[i])
			}
			if slices.Contains(d.Params, api.TVar) {
				general++
			}
		}
		seen[e]++
	}
	for e, least := range map[api.Errno]int{api.OK: 3000, api.ErrInferTwice: 200, api.ErrInferImport: 20, api.ErrInferName: 500, api.ErrInferArgs: 500, api.ErrInferType: 500} {
		if seen[e] < least {
			t.Errorf("%v: but %d modules", e, seen[e])
		}
	}
	if general < 1000 {
		t.Errorf("but %d definitions have variables", general)
	}
}
