package infer_test

import (
	"fmt"
	"math"
	"math/rand"
	"reflect"
	"strings"
	"testing"

	"usance/api"
	"usance/infer"
	"usance/show"
)

func node(kind int, text string, n int64, kids ...api.Node) api.Node {
	return api.Node{Kind: kind, Text: text, N: n, Kids: kids}
}

func number(n int64) api.Node       { return node(api.NNum, "", n) }
func truth(n int64) api.Node        { return node(api.NBool, "", n) }
func name(text string) api.Node     { return node(api.NName, text, 0) }
func imported(text string) api.Node { return node(api.NImport, text, 0) }
func param(text string) api.Node    { return node(api.NParam, text, 0) }
func cond(a, b, c api.Node) api.Node {
	return node(api.NIf, "", 0, a, b, c)
}
func call(text string, kids ...api.Node) api.Node   { return node(api.NCall, text, 0, kids...) }
func unary(text string, kid api.Node) api.Node      { return node(api.NUnary, text, 0, kid) }
func binary(text string, a, b api.Node) api.Node    { return node(api.NBinary, text, 0, a, b) }
func module(text string, kids ...api.Node) api.Node { return node(api.NModule, text, 0, kids...) }
func let(text string, kids ...api.Node) api.Node    { return node(api.NLet, text, 0, kids...) }

// repeat is n trees that are one another's likes.
func repeat(n int, kid api.Node) []api.Node {
	out := make([]api.Node, n)
	for i := range out {
		out[i] = kid
	}
	return out
}

// each is a node for each number below n.
func each(n int, made func(name string) api.Node) []api.Node {
	var out []api.Node
	for i := range n {
		out = append(out, made(fmt.Sprint("v", i)))
	}
	return out
}

func constant(name string) api.Node { return let(name, number(1)) }

// formless checks that a module and sheets answer ErrInferForm.
func formless(t *testing.T, what string, n api.Node, sheets ...api.Sheet) {
	t.Helper()
	if s, at, e := infer.Module(n, sheets); e != api.ErrInferForm || at != 0 || !reflect.DeepEqual(s, api.Sheet{}) {
		t.Errorf("%s: %v, %d, %v", what, s, at, e)
	}
}

// formed checks that they answer something else.
func formed(t *testing.T, what string, n api.Node, sheets ...api.Sheet) {
	t.Helper()
	if _, _, e := infer.Module(n, sheets); e == api.ErrInferForm {
		t.Errorf("%s: %v", what, e)
	}
}

// P11.1: trees that are no right module, whatever else is wrong with them.
func TestNoModule(t *testing.T) {
	right := module("m", let("f", name("zero")))
	formed(t, "a module", right)
	formed(t, "an empty one", module("m"))
	formless(t, "a Let", let("f", number(1)))
	formless(t, "an Import", imported("n"), lib("n"))
	for what, n := range map[string]api.Node{
		"nothing": {}, "an expression": number(1), "no name": module(""), "a keyword": module("let"), "a far name": module("m.n"), "a capital": module("M"),
		"a long name": module(strings.Repeat("a", 25)), "an N": node(api.NModule, "m", 1), "an expression in it": module("m", number(1)), "a Param in it": module("m", param("p")),
		"a module in it": module("m", module("n")), "an Import behind": module("m", let("f", number(1)), imported("n")), "an Import with kids": module("m", node(api.NImport, "n", 0, number(1))),
		"an Import of a keyword": module("m", imported("feed")), "a Let without kids": module("m", let("f")), "a Let of Params": module("m", let("f", param("p"))),
		"a Let of two": module("m", let("f", number(1), number(1))), "a Let of a keyword": module("m", let("pick", number(1))), "a Param behind": module("m", let("f", number(1), param("p"))),
		"a Param with kids": module("m", let("f", node(api.NParam, "p", 0, number(1)), number(1))), "a Param's N": module("m", let("f", node(api.NParam, "p", 1), number(1))),
		"Num -1": module("m", let("f", number(-1))), "Num too great": module("m", let("f", number(api.MaxNum+1))), "Bool 2": module("m", let("f", truth(2))),
		"a day too late": module("m", let("f", node(api.NDate, "", api.MaxDay+1))), "a day -1": module("m", let("f", node(api.NDate, "", -1))), "EU": module("m", let("f", node(api.NCur, "EU", 0))),
		"a keyword's Name": module("m", let("f", name("if"))), "a far keyword": module("m", let("f", name("a.if"))), "a Call without kids": module("m", let("f", call("now"))),
		"a Call of nine": module("m", let("f", call("now", repeat(9, number(1))...))), "a sign": module("m", let("f", unary("+", number(1)))), "another sign": module("m", let("f", binary(">", number(1), number(1)))),
		"an If of two": module("m", let("f", node(api.NIf, "", 0, truth(1), number(1)))), "a Pick of two": module("m", let("f", node(api.NPick, "p", 0, name("now"), name("zero")))),
		"a Pick without a label": module("m", let("f", node(api.NPick, "", 0, name("now"), name("zero"), name("zero")))), "a Feed's N": module("m", let("f", node(api.NFeed, "a", 1))),
		"a Name with kids": module("m", let("f", node(api.NName, "zero", 0, number(1)))), "a Module in a Let": module("m", let("f", module("m"))),
	} {
		formless(t, what, n)
		formless(t, what+", with a sheet", n, lib("n"))
		formless(t, what+", behind other faults", module("m", imported("m"), imported("p"), let("now", name("b")), n))
	}
}

// P11.1: a sheet that is not right, imported or not.
func TestNoSheet(t *testing.T) {
	n := module("m", imported("n"), let("f", name("zero")))
	scheme := func(name string, result int, params ...int) api.Sheet {
		return api.Sheet{Name: "o", Defs: []api.Scheme{{Name: "d"}, {Name: name, Params: params, Result: result}}}
	}
	formed(t, "right", n, lib("n"), lib("n"), api.Sheet{Name: "now"}, scheme("d", api.TVar+15, 0, api.TVar+15), scheme(strings.Repeat("a", 24), 0), scheme("zero", 4, 0, 1, 2, 3, 4, 5, 6, 7))
	for what, s := range map[string]api.Sheet{
		"no sheet": {}, "a keyword": {Name: "module"}, "a far name": {Name: "n.o"}, "a capital": {Name: "N"}, "a long name": {Name: strings.Repeat("a", 25)},
		"a scheme's no name": scheme("", 0), "a scheme's keyword": scheme("then", 0), "a scheme's far name": scheme("a.b", 0), "a scheme's digit": scheme("1", 0), "a scheme's long name": scheme(strings.Repeat("a", 25), 0),
		"a result -1": scheme("a", -1), "a result too great": scheme("a", api.TVar+16), "a least result": scheme("a", math.MinInt), "a greatest result": scheme("a", math.MaxInt),
		"a Param -1": scheme("a", 0, 0, -1), "a Param too great": scheme("a", 0, api.TVar+16, 0), "a least Param": scheme("a", 0, math.MinInt), "a greatest Param": scheme("a", 0, math.MaxInt),
		"nine Params": scheme("a", 0, make([]int, 9)...), "many Params": scheme("a", 0, make([]int, 1<<16)...), "201 schemes": {Name: "o", Defs: schemes(201)}, "many schemes": {Name: "o", Defs: schemes(1 << 16)},
	} {
		for at := range 3 {
			sheets := []api.Sheet{lib("n"), lib("p")}
			sheets = append(sheets[:at:at], append([]api.Sheet{s}, sheets[at:]...)...)
			formless(t, what, n, sheets...)
			formless(t, what+", behind other faults", module("m", imported("m"), let("now", name("b"))), sheets...)
		}
		s.Name = "n"
		if what != "no sheet" && len(s.Defs) > 0 {
			formless(t, what+", imported", n, s)
		}
	}
}

func schemes(n int) []api.Scheme {
	out := make([]api.Scheme, n)
	for i := range out {
		out[i].Name = fmt.Sprint("v", i)
	}
	return out
}

// P11.1: the greatest module, and what is beyond it.
func TestLimits(t *testing.T) {
	var sheets []api.Sheet
	for i := range 300 {
		sheets = append(sheets, api.Sheet{Name: fmt.Sprint("v", i), Defs: schemes(200)})
	}
	full := func(imports, lets, params int) api.Node {
		rows := append(each(imports, imported), each(lets-1, constant)...)
		return module("m", append(rows, let("f", append(each(params, param), number(1))...))...)
	}
	s, at, e := infer.Module(full(100, 200, 8), sheets)
	if e != api.OK || at != 0 || len(s.Defs) != 200 || infer.Show(s.Defs[199]) != "f(a, b, c, d, e, f, g, h): num" {
		t.Error(len(s.Defs), at, e)
	}
	formless(t, "101 Imports", full(101, 1, 0), sheets...)
	formless(t, "201 Lets", full(0, 201, 0), sheets...)
	formless(t, "nine Params", full(0, 1, 9), sheets...)
	deep := func(depth int) api.Node {
		n := number(1)
		for range depth - 1 {
			n = unary("-", n)
		}
		return module("m", let("f", n))
	}
	if s, _, e := infer.Module(deep(100), nil); e != api.OK || shown(s) != "f: num" {
		t.Error(s, e)
	}
	for _, depth := range []int{101, 102, 1 << 16} {
		formless(t, "a deep tree", deep(depth))
	}
	if s, _, e := infer.Module(module("m", let("f", param("x"), wide(8189))), nil); e != api.OK || shown(s) != "f(a): num" {
		t.Error(s, e)
	}
	formless(t, "8193 nodes", module("m", let("f", param("x"), wide(8190))))
	formless(t, "8193 nodes in two", module("m", let("f", wide(4000)), let("g", wide(4190))))
	formed(t, "8192 nodes in two", module("m", let("f", wide(4000)), let("g", wide(4189))))
}

// wide is a tree of numbers of so many nodes, as flat as it can be.
func wide(nodes int) api.Node {
	switch nodes {
	case 1:
		return number(1)
	case 2:
		return unary("-", number(1))
	}
	return binary("+", wide((nodes-1)/2), wide(nodes-1-(nodes-1)/2))
}

// ring is a tree that is its own last kid.
func ring(kind int, text string, kids int) api.Node {
	out := node(kind, text, 0, repeat(kids, name("a"))...)
	out.Kids[kids-1] = out
	return out
}

// R1: trees that go round in themselves.
func TestNoEnd(t *testing.T) {
	for _, n := range []api.Node{ring(api.NModule, "m", 1), ring(api.NLet, "f", 1), ring(api.NCall, "f", 1), ring(api.NCall, "f", 8), ring(api.NUnary, "-", 1), ring(api.NBinary, "+", 2), ring(api.NIf, "", 3), ring(api.NPick, "p", 3)} {
		formless(t, "a ring", n)
		formless(t, "a ring in a Let", module("m", let("f", n)))
		formless(t, "a ring in a module", module("m", n))
	}
	many := number(1)
	for range 60 {
		many = binary("+", many, many)
	}
	formless(t, "many nodes of few lists", module("m", let("f", many)))
}

// spoil changes something of some node, so that the tree is often no right one.
func spoil(r *rand.Rand, n *api.Node) {
	if len(n.Kids) > 0 && r.Intn(4) > 0 {
		spoil(r, &n.Kids[r.Intn(len(n.Kids))])
		return
	}
	texts := []string{"", "a", "if", "a.b", "a.if", "EUR", "EU", "-", "<", "not", "+", "a.", ".a", "a.b.c", "A", "_", "1", "a b", "é", strings.Repeat("x", 24), strings.Repeat("x", 25)}
	numbers := []int64{-1, 0, 1, 2, 73048, 73049, 1e15, 1e15 + 1, math.MinInt64, math.MaxInt64}
	switch r.Intn(6) {
	case 0:
		n.Kind = r.Intn(18) - 1
	case 1:
		n.Text = texts[r.Intn(len(texts))]
	case 2:
		n.N = numbers[r.Intn(len(numbers))]
	case 3:
		n.Kids = append(n.Kids, number(1))
	case 4:
		n.Kids = n.Kids[:max(len(n.Kids)-1, 0)]
	case 5:
		r.Shuffle(len(n.Kids), func(i, j int) { n.Kids[i], n.Kids[j] = n.Kids[j], n.Kids[i] })
	}
}

// P11.1: modules by chance, spoilt: ErrInferForm just where chapter 9 calls a tree no right module.
func TestSpoilt(t *testing.T) {
	r := rand.New(rand.NewSource(11))
	seen := map[bool]int{}
	for range 20000 {
		g := newGrower(r)
		n := g.module()
		for range 1 + r.Intn(2) {
			spoil(r, &n)
		}
		right := show.Right(n)
		if _, at, e := infer.Module(n, g.sheets); (e != api.ErrInferForm) != right || !right && at != 0 {
			t.Fatalf("%v: %d, %v, right %t", n, at, e, right)
		}
		seen[right]++
	}
	if seen[true] < 2000 || seen[false] < 2000 {
		t.Error(seen)
	}
}
