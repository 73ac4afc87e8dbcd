package causal_test

import (
	"fmt"
	"math/rand"
	"slices"
	"strings"
	"testing"

	"usance/api"
	"usance/causal"
)

// grower makes core terms by chance.
type grower struct{ *rand.Rand }

func (g grower) name() string {
	return []string{"eur", "usd", "a", "b", "gas", "if", "a_1", "z9"}[g.Intn(8)]
}

// own gives a term an N and an S that its Op may have, often at an edge.
func (g grower) own(op int, back bool) api.Core {
	c := term(op, 0, ownS(op))
	least, most := rangeOf(op)
	if back && (op == api.OFeed || op == api.ONow) {
		least = 0
	}
	c.N = []int64{least, most, least + g.Int63n(most-least+1), min(most, int64(g.Intn(3)))}[g.Intn(4)]
	switch op {
	case api.OFeed, api.CPick:
		c.S = g.name()
	case api.COne:
		c.S = []string{"EUR", "USD", "GBP"}[g.Intn(3)]
	}
	return c
}

// right is a right core term of a letter's type, at most so deep. (back: it does not look ahead.)
func (g grower) right(letter byte, depth int, back bool) api.Core {
	var fitting []string
	var theirs []int
	leaf := depth == 1 || g.Intn(8) == 0
	for op := api.ONum; op <= api.CPick; op++ {
		for _, row := range rowsOf(op) {
			if row[len(row)-1] == letter && leaf == (len(row) == 1) {
				fitting, theirs = append(fitting, row), append(theirs, op)
			}
		}
	}
	which := g.Intn(len(theirs))
	c := g.own(theirs[which], back)
	for i := range len(fitting[which]) - 1 {
		c.Kids = append(c.Kids, g.right(fitting[which][i], depth-1, back))
	}
	return c
}

// spoil changes one thing of a term, or of one within it.
func (g grower) spoil(c *api.Core) {
	if len(c.Kids) > 0 && g.Intn(3) > 0 {
		g.spoil(&c.Kids[g.Intn(len(c.Kids))])
		return
	}
	switch g.Intn(6) {
	case 0:
		c.Op = g.Intn(api.CPick + 3)
	case 1:
		_, most := rangeOf(c.Op)
		c.N = []int64{-1, 0, 1, most + 1, g.Int63n(80000)}[g.Intn(5)]
	case 2:
		c.S = []string{"", "a", "EUR", "A", "a.b"}[g.Intn(5)]
	case 3:
		c.Kids = append(c.Kids, g.right("nbdc"[g.Intn(4)], 2, false))
	case 4:
		c.Kids = c.Kids[:len(c.Kids)/2]
	case 5:
		*c = g.right("nbdc"[g.Intn(4)], 3, false)
	}
}

// plainS: is the S such as the Op has?
func plainS(op int, s string) bool {
	first, rest := "", ""
	switch op {
	case api.OFeed, api.CPick:
		first, rest = "abcdefghijklmnopqrstuvwxyz", "abcdefghijklmnopqrstuvwxyz0123456789_"
	case api.COne:
		return len(s) == 3 && strings.Trim(s, "ABCDEFGHIJKLMNOPQRSTUVWXYZ") == ""
	default:
		return s == ""
	}
	return len(s) >= 1 && len(s) <= 24 && strings.Contains(first, s[:1]) && strings.Trim(s, rest) == ""
}

// plainType is a term's letter, from its kids' up; none, if it is no right one but for its size and depth.
func plainType(c api.Core) string {
	kinds := ""
	for _, kid := range c.Kids {
		k := plainType(kid)
		if k == "" {
			return ""
		}
		kinds += k
	}
	for _, row := range rowsOf(c.Op) {
		least, most := rangeOf(c.Op)
		if row[:len(row)-1] == kinds && least <= c.N && c.N <= most && plainS(c.Op, c.S) {
			return row[len(row)-1:]
		}
	}
	return ""
}

// flat are all terms of a core.
func flat(c api.Core) []api.Core {
	out := []api.Core{c}
	for _, kid := range c.Kids {
		out = append(out, flat(kid)...)
	}
	return out
}

// plain is what the document says of a term.
func plain(c api.Core) said {
	out := nothing()
	kind := plainType(c)
	size, depth := measure(c)
	if kind == "" || size > 2000 || depth > 200 {
		return out
	}
	out.kind = map[string]int{"n": api.TNum, "b": api.TBool, "d": api.TDate, "c": api.TContract}[kind]
	out.right, out.size = true, size
	if kind == "c" {
		out.check = api.OK
	}
	var names []string
	for _, part := range flat(c) {
		switch part.Op {
		case api.CAt, api.CWhen, api.CPick:
			out.horizon = max(out.horizon, int(part.N))
		case api.OFeed:
			if !slices.Contains(names, part.S) {
				names = append(names, part.S)
			}
		}
		if (part.Op == api.OFeed || part.Op == api.ONow) && part.N < 0 && kind == "c" {
			out.check = api.ErrCausalAhead
		}
	}
	slices.Sort(names)
	out.feeds = fmt.Sprint(names)
	return out
}

// P14.1, P14.2: terms by chance, right ones and spoilt ones, held against the plain model.
func TestAnyTerms(t *testing.T) {
	g := grower{rand.New(rand.NewSource(14))}
	seen := map[string]int{}
	for i := range 20000 {
		c := g.right("nbdc"[i%4], 1+g.Intn(8), g.Intn(2) == 0)
		want := plain(c)
		says(t, c, want)
		seen[fmt.Sprint(want.kind, want.right, int(want.check))]++
		if size, _ := measure(c); want.right != (size <= 2000) {
			t.Fatalf("%.300s", fmt.Sprint(c))
		}
		g.spoil(&c)
		want = plain(c)
		says(t, c, want)
		if t.Failed() {
			return
		}
		seen[fmt.Sprint(want.kind, want.right, int(want.check))]++
	}
	for _, k := range []string{"0 false 140", "0 true 140", "1 true 140", "2 true 140", "4 true 0", "4 true 141"} {
		if seen[k] < 500 {
			t.Error(k, seen)
		}
	}
	if len(seen) != 6 {
		t.Error(seen)
	}
}

// P14.3: a kid of a right core term is one, of the type that the table says.
func TestKids(t *testing.T) {
	g := grower{rand.New(rand.NewSource(143))}
	for i := range 1000 {
		c := g.right("nbdc"[i%4], 1+g.Intn(6), false)
		for _, part := range flat(c) {
			kinds := ""
			for _, kid := range part.Kids {
				kind, right := causal.Type(kid)
				if !right {
					t.Fatalf("%v", kid)
				}
				kinds += letterOf(kind)
			}
			kind, _ := causal.Type(part)
			if !slices.Contains(rowsOf(part.Op), kinds+letterOf(kind)) {
				t.Fatalf("%v: %s, %d", part, kinds, kind)
			}
		}
	}
}

// P14.3: two right contracts make one, unless it is too great; what does not look ahead stays so.
func TestBoth(t *testing.T) {
	g := grower{rand.New(rand.NewSource(144))}
	count := map[api.Errno]int{}
	for range 3000 {
		depth := 1 + g.Intn(12)
		c, d := g.right('c', depth, g.Intn(4) > 0), g.right('c', depth, g.Intn(4) > 0)
		first, second := ask(c), ask(d)
		if !first.right || !second.right {
			continue
		}
		want := api.OK
		switch {
		case first.size+second.size+1 > 2000:
			want = api.ErrCausalForm
		case first.check != api.OK || second.check != api.OK:
			want = api.ErrCausalAhead
		}
		got := ask(both(c, d))
		if got.check != want || got.right != (want != api.ErrCausalForm) {
			t.Fatalf("%.300s, %.300s: %v, want %v", fmt.Sprint(c), fmt.Sprint(d), got, want)
		}
		if got.right && (got.size != first.size+second.size+1 || got.horizon != max(first.horizon, second.horizon)) {
			t.Fatalf("%v, %v: %v", first, second, got)
		}
		count[want]++
	}
	if count[api.OK] < 500 || count[api.ErrCausalAhead] < 500 || count[api.ErrCausalForm] < 20 {
		t.Error(count)
	}
	for more := range 3 {
		edge(t, both(deep(198+more, api.CGive, zero()), zero()), api.TContract)
		edge(t, both(scale(wide(1995+more), zero()), zero()), api.TContract)
		edge(t, both(zero(), scale(wide(1995+more), zero())), api.TContract)
	}
}
