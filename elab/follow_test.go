package elab_test

import (
	"fmt"
	"maps"
	"math/rand"
	"slices"
	"strings"
	"testing"

	"usance/api"
	"usance/elab"
	"usance/infer"
	"usance/show"
)

// written are modules as a text.
func written(mods []api.Node) string {
	out := ""
	for _, m := range mods {
		text, _ := show.Module(m)
		out += text
	}
	return out
}

// result is a term as a text, or the error's word.
func result(c api.Core, e api.Errno) string {
	if e != api.OK {
		return word(e)
	}
	return shown(c)
}

// P13.1: programs by chance, held against the model.
func TestAnyPrograms(t *testing.T) {
	seen := map[api.Errno]int{}
	great := 0
	entries(t, 1, 4000, func(_ *rand.Rand, mods []api.Node, far string, args []api.Val) {
		c, e := elab.Term(mods, far, args)
		want, wrong := newModel(mods).term(far, args)
		if result(c, e) != result(want, wrong) {
			t.Fatalf("%s%s %v: %.300s, want %.300s", written(mods), far, args, result(c, e), result(want, wrong))
		}
		seen[e]++
		if size, _ := measure(c); size > 100 {
			great++
		}
		near, _ := elab.Term(mods, far[strings.Index(far, ".")+1:], args)
		if last := mods[len(mods)-1].Text; strings.HasPrefix(far, last+".") && shown(near) != shown(c) {
			t.Fatalf("%s%s %v: by its name %.300s, want %.300s", written(mods), far, args, shown(near), shown(c))
		}
	})
	if seen[api.OK] < 3000 || seen[api.ErrElabConst] < 400 || seen[api.ErrElabSize] < 400 || great < 100 || len(seen) != 3 {
		t.Error(seen, great)
	}
}

// rowOf are the types of an Op's kids, and its own, as digits.
func rowOf(op int) string {
	return map[int]string{api.ONum: "0", api.OBool: "1", api.ODate: "2", api.OFeed: "0", api.ONow: "2", api.ONeg: "00", api.OAdd: "000", api.OSub: "000", api.OMul: "000", api.ODiv: "000", api.OLt: "001", api.OLe: "001", api.OEq: "001",
		api.ONot: "11", api.OAnd: "111", api.OOr: "111", api.OBefore: "221", api.OPlus: "202", api.OMonths: "202", api.OYears: "220", api.OYears30: "220",
		api.CZero: "4", api.COne: "4", api.CGive: "44", api.CScale: "044", api.CBoth: "444", api.CIf: "1444", api.CAt: "44", api.CWhen: "144", api.CPick: "444"}[op]
}

// ownOf: are a term's N and S such as its Op has?
func ownOf(c api.Core) bool {
	least, most, named := int64(0), int64(0), false
	switch c.Op {
	case api.ONum:
		least, most = -api.MaxNum, api.MaxNum
	case api.OBool:
		most = 1
	case api.ODate, api.CAt, api.CWhen:
		most = api.MaxDay
	case api.CPick:
		most, named = api.MaxDay, true
	case api.OFeed:
		least, most, named = -api.MaxLag, api.MaxLag, true
	case api.ONow:
		least, most = -api.MaxLag, api.MaxLag
	case api.COne:
		named = len(c.S) == 3
	}
	return least <= c.N && c.N <= most && (c.S != "") == named
}

// kindOf is a core term's type as a digit; a blank, if it is no right one (but for its size).
func kindOf(c api.Core) string {
	kinds := ""
	for _, kid := range c.Kids {
		kinds += kindOf(kid)
	}
	row := rowOf(c.Op)
	if c.Op == api.OIf {
		row = map[string]string{"100": "1000", "111": "1111", "122": "1222"}[kinds]
	}
	if row == "" || kinds != row[:len(row)-1] || !ownOf(c) {
		return " "
	}
	return row[len(row)-1:]
}

// P13.2: what is answered is a right core term of a contract.
func TestRightTerms(t *testing.T) {
	some := 0
	entries(t, 2, 1500, func(_ *rand.Rand, mods []api.Node, far string, args []api.Val) {
		c, e := elab.Term(mods, far, args)
		if e != api.OK {
			return
		}
		size, depth := measure(c)
		if kindOf(c) != "4" || size > api.MaxCore || depth > api.MaxDeep {
			t.Fatalf("%s%s %v: %.500s", written(mods), far, args, shown(c))
		}
		some++
	})
	if some < 1000 {
		t.Error(some)
	}
}

// renamer gives modules, definitions and parameters other names.
type renamer struct {
	*rand.Rand
	names map[string]string // of modules, and of definitions by far names
}

// fresh is a name that is none of these.
func (r *renamer) fresh(taken []string, pool ...string) string {
	for {
		name := pool[r.Intn(len(pool))]
		if r.Intn(2) == 0 {
			name += fmt.Sprint("_", r.Intn(1000))
		}
		if !slices.Contains(taken, name) {
			return name
		}
	}
}

var builtIns = strings.Fields("now zero one give scale both at when ago plus months years years30 before")

// used are the names that stand in an expression.
func used(n api.Node) []string {
	var out []string
	if n.Kind == api.NName || n.Kind == api.NCall {
		out = append(out, n.Text)
	}
	for _, kid := range n.Kids {
		out = append(out, used(kid)...)
	}
	return out
}

// inside is an expression with other names by a map; those that are not in it stay.
func inside(n api.Node, names map[string]string) api.Node {
	if to, is := names[n.Text]; is && (n.Kind == api.NName || n.Kind == api.NCall) {
		n.Text = to
	}
	n.Kids = slices.Clone(n.Kids)
	for i := range n.Kids {
		n.Kids[i] = inside(n.Kids[i], names)
	}
	return n
}

// module is one with other names. A parameter's may be that of something that its expression does not use.
func (r *renamer) module(m api.Node) api.Node {
	out := api.Node{Kind: m.Kind, Text: r.names[m.Text]}
	var taken []string
	free := maps.Clone(r.names)
	for _, n := range m.Kids {
		if n.Kind == api.NImport {
			out.Kids = append(out.Kids, api.Node{Kind: n.Kind, Text: r.names[n.Text]})
			continue
		}
		let := api.Node{Kind: n.Kind, Text: r.fresh(append(taken, builtIns...), "f", "m", "x", "y", "p0", "d0", out.Text+"_"), At: r.Intn(9)}
		last := len(n.Kids) - 1
		names := maps.Clone(free)
		var busy []string
		for _, name := range used(n.Kids[last]) {
			to, is := free[name]
			if !is {
				to = name
			}
			busy = append(busy, to)
		}
		for _, p := range n.Kids[:last] {
			names[p.Text] = r.fresh(busy, slices.Concat(taken, builtIns, []string{"p0", "p1", "x", let.Text})...)
			busy = append(busy, names[p.Text])
			let.Kids = append(let.Kids, api.Node{Kind: p.Kind, Text: names[p.Text]})
		}
		let.Kids = append(let.Kids, inside(n.Kids[last], names))
		out.Kids, taken, free[n.Text] = append(out.Kids, let), append(taken, let.Text), let.Text
		r.names[m.Text+"."+n.Text] = out.Text + "." + let.Text
	}
	return out
}

// P13.2: names do not matter.
func TestOtherNames(t *testing.T) {
	some := 0
	entries(t, 3, 1500, func(rnd *rand.Rand, mods []api.Node, far string, args []api.Val) {
		r := &renamer{rnd, map[string]string{}}
		var others []api.Node
		var taken []string
		for _, m := range mods {
			r.names[m.Text] = r.fresh(taken, "m", "x", "now", "zero", "d0", "p1")
			taken = append(taken, r.names[m.Text])
			others = append(others, r.module(m))
		}
		want, got := result(elab.Term(mods, far, args)), result(elab.Term(others, r.names[far], args))
		if got != want {
			t.Fatalf("%s%s%s %v: %.300s, want %.300s", written(mods), written(others), r.names[far], args, got, want)
		}
		some++
	})
	if some < 2000 {
		t.Error(some)
	}
}

// putIn is an expression with other nodes for names.
func putIn(n api.Node, nodes map[string]api.Node) api.Node {
	if to, is := nodes[n.Text]; is && n.Kind == api.NName {
		return to
	}
	n.Kids = slices.Clone(n.Kids)
	for i := range n.Kids {
		n.Kids[i] = putIn(n.Kids[i], nodes)
	}
	return n
}

// byHand is an expression in which the which-th use of a definition is put in by hand, and how many uses there are.
func byHand(m *model, n api.Node, module string, params []api.Node, which int) (api.Node, int) {
	count := 0
	var walk func(n api.Node) api.Node
	walk = func(n api.Node) api.Node {
		far := m.meant(n, module, params)
		if far != "" {
			count++
		}
		if far != "" && count-1 == which {
			let := m.lets[far]
			last := len(let.Kids) - 1
			home, _, _ := strings.Cut(far, ".")
			body := let.Kids[last]
			if home != module {
				names := map[string]string{}
				for f := range m.lets {
					if near, is := strings.CutPrefix(f, home+"."); is {
						names[near] = f
					}
				}
				body = inside(body, names)
			}
			args := map[string]api.Node{}
			for i, p := range let.Kids[:last] {
				args[p.Text] = n.Kids[i]
			}
			return putIn(body, args)
		}
		n.Kids = slices.Clone(n.Kids)
		for i := range n.Kids {
			n.Kids[i] = walk(n.Kids[i])
		}
		return n
	}
	return walk(n), count
}

// P13.3: a definition that is put in by hand makes the same term as its use.
func TestByHand(t *testing.T) {
	some := 0
	entries(t, 4, 2000, func(r *rand.Rand, mods []api.Node, far string, args []api.Val) {
		c, e := elab.Term(mods, far, args)
		if e != api.OK {
			return
		}
		m := newModel(mods)
		module, def, _ := strings.Cut(far, ".")
		at := slices.IndexFunc(mods, func(n api.Node) bool { return n.Text == module })
		row := slices.IndexFunc(mods[at].Kids, func(n api.Node) bool { return n.Kind == api.NLet && n.Text == def })
		let := m.lets[far]
		last := len(let.Kids) - 1
		_, uses := byHand(m, let.Kids[last], module, let.Kids[:last], -1)
		for which := range uses {
			body, _ := byHand(m, let.Kids[last], module, let.Kids[:last], which)
			other := slices.Clone(mods)
			other[at].Kids = slices.Clone(mods[at].Kids)
			other[at].Kids[row].Kids = append(slices.Clone(let.Kids[:last]), body)
			var ahead []api.Sheet
			for _, n := range mods[:at] {
				s, _, _ := infer.Module(n, ahead)
				ahead = append(ahead, s)
			}
			if _, place, e := infer.Module(other[at], ahead); e != api.OK {
				t.Fatalf("%s%s: %v at %d", written(mods), written(other), e, place)
			}
			got, e := elab.Term(other, far, args)
			if result(got, e) != shown(c) {
				t.Fatalf("%s%s%s %v: %.300s, want %.300s", written(mods), written(other), far, args, result(got, e), shown(c))
			}
			some++
		}
	})
	if some < 1000 {
		t.Error(some)
	}
}
