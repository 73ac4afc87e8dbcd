package causal_test

import (
	"fmt"
	"math/rand"
	"reflect"
	"strings"
	"testing"

	"usance/api"
	"usance/causal"
	"usance/date"
	"usance/elab"
	"usance/num"
	"usance/syntax"
)

// forms are the contract language's ways to write terms, with a % for each kid.
var forms = map[int]string{
	api.ONeg: "(-%)", api.OAdd: "(% + %)", api.OSub: "(% - %)", api.OMul: "(% * %)", api.ODiv: "(% / %)", api.OLt: "(% < %)", api.OLe: "(% <= %)", api.OEq: "(% = %)",
	api.ONot: "(not %)", api.OAnd: "(% and %)", api.OOr: "(% or %)", api.OBefore: "before(%, %)", api.OPlus: "plus(%, %)", api.OMonths: "months(%, %)", api.OYears: "years(%, %)", api.OYears30: "years30(%, %)",
	api.OIf: "(if % then % else %)", api.CIf: "(if % then % else %)", api.CZero: "zero", api.CGive: "give(%)", api.CScale: "scale(%, %)", api.CBoth: "both(%, %)",
}

// leaf is the text of a term without kids, or the beginning of one whose N is a day.
func leaf(c api.Core) string {
	on, _ := date.Show(int(c.N))
	switch c.Op {
	case api.ONum:
		return num.Show(c.N)
	case api.OBool:
		return []string{"false", "true"}[c.N]
	case api.ODate:
		return on
	case api.OFeed:
		return fmt.Sprintf(`ago(%d, feed "%s")`, c.N, c.S)
	case api.ONow:
		return fmt.Sprintf("ago(%d, now)", c.N)
	case api.COne:
		return "one(" + c.S + ")"
	case api.CAt:
		return "at(" + on + ", "
	case api.CWhen:
		return "when(" + on + ", "
	case api.CPick:
		return fmt.Sprintf(`pick "%s"(%s, `, c.S, on)
	}
	return ""
}

// written is a text of which a term is made.
func written(c api.Core) string {
	var kids []string
	for _, kid := range c.Kids {
		kids = append(kids, written(kid))
	}
	if out := forms[c.Op]; out != "" {
		for _, kid := range kids {
			out = strings.Replace(out, "%", kid, 1)
		}
		return out
	}
	if len(kids) == 0 {
		return leaf(c)
	}
	return leaf(c) + strings.Join(kids, ", ") + ")"
}

// literal is a term whose numbers are not below 0: those that are have no text of their own.
func literal(c api.Core) api.Core {
	out := term(c.Op, c.N, c.S)
	if c.Op == api.ONum {
		out.N = max(c.N, -c.N)
	}
	for _, kid := range c.Kids {
		out.Kids = append(out.Kids, literal(kid))
	}
	return out
}

// made is what elab answers of the definition f of a module with these rows.
func made(t *testing.T, rows string, args ...api.Val) (api.Core, api.Errno) {
	t.Helper()
	m, place, e := syntax.Module("module m; " + rows)
	if e != api.OK {
		t.Fatalf("%.300s: %v at %d", rows, e, place)
	}
	return elab.Term([]api.Node{m}, "f", args)
}

// P13.2: contracts by chance, written and elaborated: the same ones, which are right.
func TestElaborated(t *testing.T) {
	g := grower{rand.New(rand.NewSource(132))}
	seen := map[api.Errno]int{}
	for range 2000 {
		c := literal(g.right('c', 1+g.Intn(7), g.Intn(3) > 0))
		if size, _ := measure(c); size > 300 {
			continue
		}
		got, e := made(t, "let f = "+written(c)+";")
		if e != api.OK || !reflect.DeepEqual(got, c) {
			t.Fatalf("%s: %v, %v, want %v", written(c), got, e, c)
		}
		if kind, right := causal.Type(got); kind != api.TContract || !right {
			t.Fatalf("%v: %v, %v", got, kind, right)
		}
		says(t, got, plain(c))
		seen[causal.Check(got)]++
	}
	if seen[api.OK] < 500 || seen[api.ErrCausalAhead] < 200 || len(seen) != 2 {
		t.Error(seen)
	}
}

// P13.2: what is as great as elab allows is right.
func TestElaboratedEdges(t *testing.T) {
	for _, more := range []int{-1, 0, 1} {
		want := api.OK
		if more > 0 {
			want = api.ErrElabSize
		}
		c, e := made(t, "let f = scale("+written(wide(1998+more))+", zero);")
		if size, _ := measure(c); e != want || e == api.OK && (size != 2000+more || causal.Check(c) != api.OK || causal.Size(c) != size) {
			t.Errorf("%d more terms: %v, %v", more, e, causal.Check(c))
		}
		half := strings.Repeat("give(", 80)
		ends := strings.Repeat(")", 80)
		last := strings.Repeat("give(", 39+more) + "x" + strings.Repeat(")", 39+more)
		c, e = made(t, "let g(x) = "+half+"x"+ends+"; let h(x) = "+last+"; let f = h(g(g(one(EUR))));")
		if _, depth := measure(c); e != want || e == api.OK && (depth != 200+more || causal.Check(c) != api.OK) {
			t.Errorf("%d deeper: %v, %v, %d", more, e, causal.Check(c), depth)
		}
	}
}

// P13.2: arguments at their edges, too, and the document's ago.
func TestElaboratedArguments(t *testing.T) {
	rows := `let f(n, b, d, c) = if b then scale(n, one(c)) else when(d, before(d, now), pick "p"(d, zero, at(d, one(c))));`
	for _, n := range []int64{-api.MaxNum, -1, 0, api.MaxNum} {
		for _, b := range []int64{0, 1} {
			for _, d := range []int64{0, api.MaxDay} {
				c, e := made(t, rows, api.Val{Type: api.TNum, N: n}, api.Val{Type: api.TBool, N: b}, api.Val{Type: api.TDate, N: d}, api.Val{Type: api.TCur, S: "ZZZ"})
				if e != api.OK {
					t.Fatal(e)
				}
				says(t, c, said{api.TContract, true, api.OK, int(d), "[]", 13})
			}
		}
	}
	for ago, want := range map[int]api.Errno{-3660: api.ErrCausalAhead, -1: api.ErrCausalAhead, 0: api.OK, 3660: api.OK} {
		c, e := made(t, fmt.Sprintf(`let late(x) = ago(%d, x); let f = scale(late(feed "eur"), zero);`, ago))
		if got := causal.Check(c); e != api.OK || got != want {
			t.Errorf("%d: %v, %v, want %v", ago, e, got, want)
		}
	}
}
