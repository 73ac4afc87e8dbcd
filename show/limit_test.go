package show_test

import (
	"strings"
	"testing"

	"usance/api"
	"usance/show"
)

// wide is a tree of Calls of exactly so many nodes, as flat as it can be.
func wide(nodes int) api.Node {
	if nodes == 1 {
		return name("a")
	}
	kids := min(nodes-1, api.MaxParams)
	out := call("f")
	for i := range kids {
		out.Kids = append(out.Kids, wide((nodes-1+i)/kids))
	}
	return out
}

// deeps wrap a tree in each Kind that has kids, at each of its kids.
func deeps() map[string]func(api.Node) api.Node {
	a := name("a")
	return map[string]func(api.Node) api.Node{
		"-":            func(n api.Node) api.Node { return unary("-", n) },
		"not":          func(n api.Node) api.Node { return unary("not", n) },
		"left":         func(n api.Node) api.Node { return binary("-", n, a) },
		"right":        func(n api.Node) api.Node { return binary("and", a, n) },
		"if":           func(n api.Node) api.Node { return cond(n, a, a) },
		"then":         func(n api.Node) api.Node { return cond(a, n, a) },
		"else":         func(n api.Node) api.Node { return cond(a, a, n) },
		"pick":         func(n api.Node) api.Node { return pick("p", a, a, n) },
		"call":         func(n api.Node) api.Node { return call("f", n) },
		"last of call": func(n api.Node) api.Node { return call("f", append(repeat(7, a), n)...) },
		"not if":       func(n api.Node) api.Node { return unary("not", cond(a, n, a)) },
		"-binary":      func(n api.Node) api.Node { return unary("-", binary("*", n, a)) },
	}
}

// P9.1, P9.3: a depth of 100 and of 101; those of 100 are read back, however they nest.
func TestDepth(t *testing.T) {
	for what, deeper := range deeps() {
		n := name("a")
		for depth(n) < 99 {
			n = deeper(n)
		}
		for depth(n) < 100 {
			n = unary("-", n)
		}
		rightExpr(t, n, form(n))
		rightModule(t, module("m", let("f", n), let("g", param("p"), n)), form(module("m", let("f", n), let("g", param("p"), n))))
		readBack(t, n)
		for more, w := range deeps() {
			wrong(t, what+" too deep by "+more, w(n))
			wrong(t, what+" too deep by "+more+" in a module", module("m", let("g", name("a")), let("f", w(n))))
		}
	}
}

// P9.1: 8192 and 8193 nodes.
func TestNodes(t *testing.T) {
	for _, nodes := range []int{1, 2, 9, 10, 100, 8191, 8192} {
		n := wide(nodes)
		if count(n) != nodes {
			t.Fatal(count(n), nodes)
		}
		rightExpr(t, n, form(n))
	}
	wrong(t, "8193 nodes", wide(8193))
	wrong(t, "20000 nodes", wide(20000))
	two := module("m", imported("n"), let("f", param("p"), wide(4000)), let("g", wide(4187)))
	if count(two) != 8192 {
		t.Fatal(count(two))
	}
	rightModule(t, two, form(two))
	rightModule(t, module("m", let("f", wide(8190))), form(module("m", let("f", wide(8190)))))
	for what, n := range map[string]api.Node{
		"the first expression": module("m", imported("n"), let("f", param("p"), wide(4001)), let("g", wide(4187))),
		"the second one":       module("m", imported("n"), let("f", param("p"), wide(4000)), let("g", wide(4188))),
		"an Import":            module("m", imported("n"), imported("n"), let("f", param("p"), wide(4000)), let("g", wide(4187))),
		"a Param":              module("m", imported("n"), let("f", param("p"), wide(4000)), let("g", param("p"), wide(4187))),
		"a Let, just in part":  module("m", imported("n"), let("f", param("p"), wide(4000)), let("g", wide(4187)), let("h", name("a"))),
		"one expression":       module("m", let("f", wide(8191))),
		"one of 8192":          module("m", let("f", wide(8192))),
	} {
		wrong(t, "a node too much by "+what, n)
	}
}

// P9.1: a Call with none, one, eight and nine kids.
func TestManyArguments(t *testing.T) {
	wrongExpr(t, "no argument", call("f"))
	for n := 1; n <= 8; n++ {
		rightExpr(t, call("f", repeat(n, number(0))...), "f(0"+strings.Repeat(", 0", n-1)+")")
	}
	for _, n := range []int{9, 10, 1000} {
		wrongExpr(t, "too many arguments", call("f", repeat(n, number(0))...))
	}
}

// P9.1: 100 and 101 Imports, 200 and 201 Lets, eight and nine Params.
func TestManyRows(t *testing.T) {
	imports, lets := repeat(100, imported("n")), repeat(200, let("f", name("a")))
	rows := append(append([]api.Node{}, imports...), lets...)
	head, importRow, letRow := "module m;\n", "import n;\n", "let f = a;\n"
	rightModule(t, module("m", imports...), head+strings.Repeat(importRow, 100))
	rightModule(t, module("m", lets...), head+strings.Repeat(letRow, 200))
	rightModule(t, module("m", rows...), head+strings.Repeat(importRow, 100)+strings.Repeat(letRow, 200))
	wrong(t, "101 Imports", module("m", repeat(101, imported("n"))...))
	wrong(t, "201 Lets", module("m", repeat(201, let("f", name("a")))...))
	wrong(t, "101 Imports and a Let", module("m", append(repeat(101, imported("n")), let("f", name("a")))...))
	wrong(t, "100 Imports and 201 Lets", module("m", append(rows[:300:300], let("f", name("a")))...))
	wrong(t, "many rows", module("m", repeat(1<<20, imported("n"))...))
	for n := range 9 {
		m := module("m", let("f", append(repeat(n, param("p")), name("a"))...))
		rightModule(t, m, form(m))
	}
	for _, n := range []int{9, 10, 1000} {
		wrong(t, "too many Params", module("m", let("f", append(repeat(n, param("p")), name("a"))...)))
	}
}

// ring is a tree that is its own last kid.
func ring(kind int, text string, kids int) api.Node {
	out := node(kind, text, 0, repeat(kids, name("a"))...)
	out.Kids[kids-1] = out
	return out
}

// R1: trees that go round in themselves, or in which a list stands many times: no end of nodes, but an answer.
func TestNoEnd(t *testing.T) {
	for _, n := range []api.Node{
		ring(api.NCall, "f", 1), ring(api.NCall, "f", 8), ring(api.NUnary, "-", 1), ring(api.NBinary, "+", 2), ring(api.NIf, "", 3), ring(api.NPick, "p", 3),
		ring(api.NModule, "m", 1), ring(api.NLet, "f", 1), ring(api.NParam, "p", 1), ring(0, "", 1), ring(api.NName, "a", 1),
	} {
		wrongExpr(t, "a ring", n)
		if show.Same(n, n) || show.Same(n, name("a")) || show.Same(name("a"), n) {
			t.Error("a ring is the same")
		}
	}
	a, b := ring(api.NCall, "f", 2), ring(api.NCall, "f", 2)
	if show.Same(a, b) {
		t.Error("two rings are the same")
	}
	many := name("a")
	for range 60 {
		many = call("f", repeat(8, many)...)
	}
	wrong(t, "many nodes of few lists", many)
	if show.Same(many, many) {
		t.Error("many nodes are the same")
	}
	deep := name("a")
	for range 1 << 16 {
		deep = unary("-", deep)
	}
	wrong(t, "a deep tree", deep)
	if show.Same(deep, deep) {
		t.Error("a deep tree is the same")
	}
}
