package show_test

import (
	"fmt"
	"math"
	"math/rand"
	"reflect"
	"testing"

	"usance/api"
	"usance/show"
)

// same checks Same, either way round.
func same(t *testing.T, a, b api.Node, want bool) {
	t.Helper()
	if show.Same(a, b) != want || show.Same(b, a) != want {
		t.Errorf("%.200s, %.200s: not %t", fmt.Sprint(a), fmt.Sprint(b), want)
	}
}

// copied is a tree of its own memory, with other places.
func copied(n api.Node) api.Node {
	n.At = n.At*31 + 7
	kids := n.Kids
	n.Kids = nil
	for _, k := range kids {
		n.Kids = append(n.Kids, copied(k))
	}
	return n
}

// P9.2: right trees, and one thing that is otherwise.
func TestSame(t *testing.T) {
	all := samples()
	for s, a := range all {
		for r, b := range all {
			same(t, a, copied(b), s == r)
			same(t, module("m", imported("n"), let("f", param("p"), a)), module("m", imported("n"), let("f", param("p"), copied(b))), s == r)
			same(t, call("f", name("a"), pick("p", name("a"), a, name("b"))), call("f", name("a"), pick("p", name("a"), b, name("b"))), s == r)
		}
	}
	a, b := name("a"), name("b")
	same(t, binary("+", a, b), binary("+", b, a), false)
	same(t, binary("+", a, b), binary("-", a, b), false)
	same(t, call("f", a), call("f", a, a), false)
	same(t, call("f", a), call("f"), false)
	same(t, call("f"), name("f"), false)
	same(t, number(1), day(1), false)
	same(t, number(1), number(2), false)
	same(t, feed("a"), pick("a"), false)
}

// P9.2: it is asked of any trees, right or not.
func TestSameOfWrongTrees(t *testing.T) {
	trees := []api.Node{
		{}, {Kind: -1}, {Kind: math.MaxInt}, {Kind: math.MinInt}, {N: -1}, {N: math.MaxInt64}, {N: math.MinInt64}, {Text: "\x00"}, {Text: "\xff"}, {Text: "a"}, {Text: "a\x00"},
		node(api.NName, "if", 5, node(api.NModule, "", 0)), node(api.NName, "if", 5, node(api.NModule, "", 0), api.Node{}), node(api.NName, "if", 6, node(api.NModule, "", 0)),
		node(0, "", 0, repeat(1000, api.Node{})...), node(0, "", 0, repeat(1001, api.Node{})...), node(0, "", 0, node(0, "", 0)), number(-1), call("f"), module("m", let("f")),
	}
	for i, a := range trees {
		for j, b := range trees {
			same(t, a, copied(b), i == j)
		}
	}
}

// chain is a tree of so many nodes, each but the last with one kid.
func chain(nodes int) api.Node {
	out := api.Node{}
	for range nodes - 1 {
		out = node(0, "", 0, out)
	}
	return out
}

// P9.2: of 8192 nodes it may be true, of more it is not, whichever tree has them.
func TestSameOfManyNodes(t *testing.T) {
	for _, make := range []func(int) api.Node{
		wide, chain,
		func(nodes int) api.Node { return node(0, "", 0, repeat(nodes-1, api.Node{})...) },
		func(nodes int) api.Node { return module("m", let("f", wide(nodes-2))) },
	} {
		for _, nodes := range []int{5, 8191, 8192, 8193, 8194, 20000} {
			a, b := make(nodes), make(nodes)
			if count(a) != nodes {
				t.Fatal(count(a), nodes)
			}
			same(t, a, b, nodes <= 8192)
			same(t, a, a, nodes <= 8192)
			same(t, a, copied(b), nodes <= 8192)
			same(t, a, make(nodes+1), false)
			same(t, a, name("a"), false)
		}
	}
}

// plain is a tree without its places.
func plain(n api.Node) api.Node {
	out := node(n.Kind, n.Text, n.N)
	for _, k := range n.Kids {
		out.Kids = append(out.Kids, plain(k))
	}
	return out
}

// P9.2: trees by chance, and what is left of them when something was spoilt.
func TestSameOfAnyTrees(t *testing.T) {
	g := grower{rand.New(rand.NewSource(92))}
	differ := 0
	for i := range 5000 {
		a := g.module()
		if i%2 == 0 {
			a = g.expr(4)
		}
		b := copied(a)
		same(t, a, b, true)
		g.spoil(&b)
		want := reflect.DeepEqual(plain(a), plain(b))
		same(t, a, b, want)
		if !want {
			differ++
		}
	}
	if differ < 1000 {
		t.Error(differ)
	}
}
