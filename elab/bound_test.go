package elab_test

import (
	"fmt"
	"strings"
	"testing"

	"usance/api"
)

func node(kind int, text string, n int64, kids ...api.Node) api.Node {
	return api.Node{Kind: kind, Text: text, N: n, Kids: kids}
}

func name(text string) api.Node { return node(api.NName, text, 0) }

// back is an expression so many days ago.
func back(days int64, of api.Node) api.Node {
	k := node(api.NNum, "", max(days, -days)*api.One)
	if days < 0 {
		k = node(api.NUnary, "-", 0, k)
	}
	return node(api.NCall, "ago", 0, k, of)
}

// chain are 16 modules of definitions, each of which has the one ahead within so many parts; the last one, f, is made of the one ahead of it.
func chain(defs, parts int, bottom api.Node, part, last func(api.Node) api.Node) []api.Node {
	var mods []api.Node
	ahead := bottom
	for m := range 16 {
		mod := node(api.NModule, fmt.Sprint("m", m), 0)
		if m > 0 {
			mod.Kids = append(mod.Kids, node(api.NImport, fmt.Sprint("m", m-1), 0))
		}
		for d := range defs {
			for range parts {
				ahead = part(ahead)
			}
			let := fmt.Sprint("d", d)
			mod.Kids = append(mod.Kids, node(api.NLet, let, 0, ahead))
			ahead = name(let)
		}
		if m == 15 {
			mod.Kids = append(mod.Kids, node(api.NLet, "f", 0, last(ahead)))
		}
		ahead.Text = mod.Text + "." + ahead.Text
		mods = append(mods, mod)
	}
	return mods
}

// R1: nearly 100000 nodes, one within the other.
func TestNested(t *testing.T) {
	scale := func(n api.Node) api.Node { return node(api.NCall, "scale", 0, n, name("zero")) }
	years := func(n api.Node) api.Node {
		return scale(node(api.NCall, "years", 0, back(1, n), node(api.NDate, "", 0)))
	}
	minus := func(n api.Node) api.Node { return node(api.NUnary, "-", 0, n) }
	give := func(n api.Node) api.Node { return node(api.NCall, "give", 0, n) }
	ago := func(days ...int64) func(n api.Node) api.Node {
		return func(n api.Node) api.Node {
			for _, k := range days {
				n = back(k, n)
			}
			return n
		}
	}
	same := func(n api.Node) api.Node { return n }
	feed, one := node(api.NFeed, "a", 0), node(api.NNum, "", 1)
	for _, c := range []struct {
		defs, parts int
		bottom      api.Node
		part, last  func(api.Node) api.Node
		want        string
	}{
		{62, 99, one, minus, scale, "size"},
		{62, 95, one, minus, func(n api.Node) api.Node { return scale(node(api.NCall, "ago", 0, node(api.NNum, "", 1), n)) }, "size"},
		{31, 99, feed, ago(0), scale, "CScale (OFeed a 0, CZero)"},
		{25, 49, name("now"), ago(1, -1), years, "CScale (OYears (ONow 1, ODate 0), CZero)"},
		{31, 99, feed, ago(1), scale, "const"},
		{37, 6, feed, ago(1), scale, "CScale (OFeed a 3552, CZero)"},
		{12, 1, name("zero"), give, same, strings.Repeat("CGive (", 192) + "CZero" + strings.Repeat(")", 192)},
	} {
		if got := answer(t, chain(c.defs, c.parts, c.bottom, c.part, c.last), "f"); got != c.want {
			t.Errorf("%d times %d: %.100s, want %.100s", c.defs, c.parts, got, c.want)
		}
	}
}

// R1: many steps, each of which asks something of a great term.
func TestManySteps(t *testing.T) {
	ten := func(ahead, behind string) string { return strings.Repeat(ahead, 10) + "x" + strings.Repeat(behind, 10) }
	rows := "let half = " + strings.ReplaceAll(wide(990), "1", `feed "a"`) + "; let drop(x, y) = x; let same = " + wide(1990) + "; let day = plus(1900-01-05, 0 * same); "
	rows += "let ago1(x) = " + ten("ago(0, ", ")") + "; let ago2(x) = " + ten("ago1(", ")") + "; let ago3(x) = " + ten("ago2(", ")") + "; let ago4(x) = " + ten("ago3(", ")") + "; "
	rows += "let at1(x, d) = " + ten("drop(zero, at(d, ", "))") + "; let at2(x, d) = " + ten("at1(", ", d)") + "; let at3(x, d) = " + ten("at2(", ", d)") + "; let at4(x, d) = " + ten("at3(", ", d)") + "; "
	mods := parsed(t, "module m; "+rows+"let f = scale(ago(7, ago4(half)), zero); let g = at4(zero, day); let h = at4(zero, now); let i = ago(1, ago4(ago3(scale(half, scale(half, zero)))));")
	want := strings.ReplaceAll(answer(t, parsed(t, "module m; "+rows+"let f = scale(half, zero);"), "f"), "OFeed a 0", "OFeed a 7")
	if got := answer(t, mods, "f"); got != want {
		t.Errorf("%.100s", got)
	}
	if got := answer(t, mods, "g"); got != "CZero" {
		t.Errorf("%.100s", got)
	}
	if got := answer(t, mods, "h"); got != "const" {
		t.Errorf("%.100s", got)
	}
	if got := answer(t, mods, "i"); strings.Count(got, "OFeed a 1,")+strings.Count(got, "OFeed a 1)") != 2*strings.Count(want, "OFeed") {
		t.Errorf("%.100s", got)
	}
}
