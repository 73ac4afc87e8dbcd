package elab_test

import (
	"math/big"
	"slices"
	"strings"

	"usance/api"
	"usance/date"
	"usance/num"
)

// plain is what an expression became, by the model: a currency or a whole term.
type plain struct {
	cur  string
	core api.Core
}

// model makes terms as the chapter's words say it, one whole term at each step.
type model struct {
	lets  map[string]api.Node // by far names
	works map[string]*big.Int
}

func newModel(mods []api.Node) *model {
	m := &model{lets: map[string]api.Node{}, works: map[string]*big.Int{}}
	for _, mod := range mods {
		for _, n := range mod.Kids {
			if n.Kind == api.NLet {
				m.lets[mod.Text+"."+n.Text] = n
			}
		}
	}
	return m
}

// meant is the far name of the definition that a node means, empty, if it means none.
func (m *model) meant(n api.Node, module string, params []api.Node) string {
	if n.Kind != api.NName && n.Kind != api.NCall || slices.ContainsFunc(params, func(p api.Node) bool { return p.Text == n.Text }) {
		return ""
	}
	far := n.Text
	if !strings.Contains(far, ".") {
		far = module + "." + far
	}
	if _, is := m.lets[far]; !is {
		return ""
	}
	return far
}

// work of a definition.
func (m *model) work(far string) *big.Int {
	if w, is := m.works[far]; is {
		return w
	}
	module, _, _ := strings.Cut(far, ".")
	let := m.lets[far]
	last := len(let.Kids) - 1
	sum := new(big.Int)
	var add func(n api.Node)
	add = func(n api.Node) {
		sum.Add(sum, big.NewInt(1))
		if d := m.meant(n, module, let.Kids[:last]); d != "" {
			sum.Add(sum, m.work(d))
		}
		for _, kid := range n.Kids {
			add(kid)
		}
	}
	add(let.Kids[last])
	m.works[far] = sum
	return sum
}

// term is what Term is to answer of an entry by its far name, with arguments that fit.
func (m *model) term(far string, args []api.Val) (api.Core, api.Errno) {
	if m.work(far).Cmp(big.NewInt(api.MaxWork)) > 0 {
		return api.Core{}, api.ErrElabSize
	}
	var l []plain
	for _, a := range args {
		l = append(l, plain{a.S, api.Core{Op: []int{api.ONum, api.OBool, api.ODate, 0}[a.Type], N: a.N}})
	}
	out, e := m.use(far, l)
	if e != api.OK {
		return api.Core{}, e
	}
	return out.core, api.OK
}

// use is a definition with arguments.
func (m *model) use(far string, args []plain) (plain, api.Errno) {
	module, _, _ := strings.Cut(far, ".")
	let := m.lets[far]
	last := len(let.Kids) - 1
	return m.expr(let.Kids[last], module, let.Kids[:last], args)
}

func (m *model) expr(n api.Node, module string, params []api.Node, args []plain) (plain, api.Errno) {
	var kids []plain
	for _, kid := range n.Kids {
		k, e := m.expr(kid, module, params, args)
		if e != api.OK {
			return plain{}, e
		}
		kids = append(kids, k)
	}
	if i := slices.IndexFunc(params, func(p api.Node) bool { return p.Text == n.Text }); n.Kind == api.NName && i >= 0 {
		return args[i], api.OK
	}
	if far := m.meant(n, module, params); far != "" {
		return m.use(far, kids)
	}
	out, right := m.step(n, kids)
	if !right {
		return plain{}, api.ErrElabConst
	}
	if size, depth := measure(out.core); size > api.MaxCore || depth > api.MaxDeep {
		return plain{}, api.ErrElabSize
	}
	return out, api.OK
}

// modelOps are the Ops of what keeps all its kids.
var modelOps = map[string]int{"-1": api.ONeg, "not1": api.ONot, "or2": api.OOr, "and2": api.OAnd, "<2": api.OLt, "<=2": api.OLe, "=2": api.OEq, "+2": api.OAdd, "-2": api.OSub, "*2": api.OMul, "/2": api.ODiv,
	"give1": api.CGive, "scale2": api.CScale, "both2": api.CBoth, "plus2": api.OPlus, "months2": api.OMonths, "years2": api.OYears, "years302": api.OYears30, "before2": api.OBefore}

// step is what a node becomes that means no definition and no parameter; false, where a constant is missing.
func (m *model) step(n api.Node, kids []plain) (plain, bool) {
	cores := []api.Core{}
	for _, k := range kids {
		cores = append(cores, k.core)
	}
	term := func(op int, s string, n int64, kids ...api.Core) (plain, bool) {
		return plain{core: api.Core{Op: op, N: n, S: s, Kids: kids}}, true
	}
	switch {
	case n.Kind == api.NNum:
		return term(api.ONum, "", n.N)
	case n.Kind == api.NBool:
		return term(api.OBool, "", n.N)
	case n.Kind == api.NDate:
		return term(api.ODate, "", n.N)
	case n.Kind == api.NFeed:
		return term(api.OFeed, n.Text, 0)
	case n.Kind == api.NCur:
		return plain{cur: n.Text}, true
	case n.Kind == api.NIf && kids[1].cur != "":
		v, is := value(cores[0])
		return kids[2-v], is
	case n.Kind == api.NIf && cores[1].Op >= api.CZero:
		return term(api.CIf, "", 0, cores...)
	case n.Kind == api.NIf:
		return term(api.OIf, "", 0, cores...)
	case n.Kind == api.NPick || n.Text == "at" || n.Text == "when":
		v, is := value(cores[0])
		out, _ := term(map[string]int{"at": api.CAt, "when": api.CWhen}[n.Text], "", v, cores[1:]...)
		if n.Kind == api.NPick {
			out, _ = term(api.CPick, n.Text, v, cores[1:]...)
		}
		return out, is
	case n.Text == "now":
		return term(api.ONow, "", 0)
	case n.Text == "zero":
		return term(api.CZero, "", 0)
	case n.Text == "one":
		return term(api.COne, kids[0].cur, 0)
	case n.Text == "ago":
		v, is := value(cores[0])
		moved, within := moved(cores[1], v/api.One)
		return plain{kids[1].cur, moved}, is && v%api.One == 0 && -api.MaxLag <= v/api.One && v/api.One <= api.MaxLag && within
	}
	return term(modelOps[n.Text+string(rune('0'+len(kids)))], "", 0, cores...)
}

// moved is a term whose OFeeds and ONows have another N, and whether these are within.
func moved(c api.Core, k int64) (api.Core, bool) {
	within := true
	if c.Op == api.OFeed || c.Op == api.ONow {
		c.N += k
		within = -api.MaxLag <= c.N && c.N <= api.MaxLag
	}
	var kids []api.Core
	for _, kid := range c.Kids {
		moved, is := moved(kid, k)
		kids, within = append(kids, moved), within && is
	}
	c.Kids = kids
	return c, within
}

// measure is how many terms there are, and how deep.
func measure(c api.Core) (int, int) {
	size, depth := 1, 0
	for _, kid := range c.Kids {
		s, d := measure(kid)
		size, depth = size+s, max(depth, d)
	}
	return size, depth + 1
}

// value is what a number, a truth or a day is on any day; 0, false, if it is no constant.
func value(c api.Core) (int64, bool) {
	if c.Op == api.OFeed || c.Op == api.ONow {
		return 0, false
	}
	v := []int64{}
	for _, kid := range c.Kids {
		k, is := value(kid)
		if !is {
			return 0, false
		}
		v = append(v, k)
	}
	is := func(b bool) (int64, bool) { return map[bool]int64{true: 1}[b], true }
	switch c.Op {
	case api.ONeg:
		return num.Neg(v[0]), true
	case api.OAdd:
		return num.Add(v[0], v[1]), true
	case api.OSub:
		return num.Sub(v[0], v[1]), true
	case api.OMul:
		return num.Mul(v[0], v[1]), true
	case api.ODiv:
		return num.Div(v[0], v[1]), true
	case api.OLt, api.OBefore:
		return is(v[0] < v[1])
	case api.OLe:
		return is(v[0] <= v[1])
	case api.OEq:
		return is(v[0] == v[1])
	case api.ONot:
		return is(v[0] == 0)
	case api.OAnd:
		return is(v[0]+v[1] == 2)
	case api.OOr:
		return is(v[0]+v[1] > 0)
	case api.OPlus:
		return int64(date.Plus(int(v[0]), num.Whole(v[1]))), true
	case api.OMonths:
		return int64(date.Months(int(v[0]), num.Whole(v[1]))), true
	case api.OYears:
		return date.Years(int(v[0]), int(v[1])), true
	case api.OYears30:
		return date.Years30(int(v[0]), int(v[1])), true
	case api.OIf:
		return v[2-v[0]], true
	}
	return c.N, true
}
