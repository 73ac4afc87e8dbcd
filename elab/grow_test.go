package elab_test

import (
	"fmt"
	"math/rand"
	"slices"
	"strings"
	"testing"

	"usance/api"
	"usance/infer"
	"usance/syntax"
)

// known is a name that an expression may use: its types, which of its arguments should be constants, and whether it is one with these.
type known struct {
	api.Scheme
	fixed []bool
	pure  bool
}

// grower makes programs by chance, whose parts have the types that they must have.
type grower struct {
	*rand.Rand
	odd    int  // among so many one that should be a constant need be none
	heaps  bool // many definitions, each of which uses the one ahead
	mods   []api.Node
	sheets []api.Sheet
	far    []known
	near   []known
	params []known
}

// grown are right modules, and their sheets.
func grown(r *rand.Rand) ([]api.Node, []api.Sheet) {
	g := &grower{Rand: r, odd: []int{8, 50, 1000}[r.Intn(3)], heaps: r.Intn(8) == 0}
	for i := range 1 + r.Intn(3) {
		g.module(fmt.Sprint("m", i))
	}
	return g.mods, g.sheets
}

func (g *grower) among(l ...string) string { return l[g.Intn(len(l))] }

func (g *grower) module(name string) {
	text := "module " + name + ";"
	for _, s := range g.sheets {
		text += " import " + s.Name + ";"
	}
	g.near = nil
	var n api.Node
	var s api.Sheet
	lets := 1 + g.Intn(7)
	if g.heaps {
		lets += 8
	}
	for i := range lets {
		let := fmt.Sprintf("d%d", i)
		row, k := g.let(let)
		text += "\n" + row
		var at int
		var e api.Errno
		if n, at, e = syntax.Module(text); e != api.OK {
			panic(fmt.Sprint(text, at, e))
		}
		if s, at, e = infer.Module(n, g.sheets); e != api.OK {
			panic(fmt.Sprint(text, at, e))
		}
		k.Scheme = s.Defs[i]
		g.near = append(g.near, k)
	}
	g.mods, g.sheets = append(g.mods, n), append(g.sheets, s)
	for _, k := range g.near {
		k.Name = name + "." + k.Name
		g.far = append(g.far, k)
	}
}

// let is a row that defines something.
func (g *grower) let(name string) (string, known) {
	k := known{pure: g.Intn(3) == 0}
	g.params = nil
	var params []string
	for i := range g.Intn(4) {
		p := known{api.Scheme{Name: fmt.Sprint("p", i), Result: g.Intn(5)}, nil, k.pure || g.Intn(3) == 0}
		g.params = append(g.params, p)
		params, k.fixed = append(params, p.Name), append(k.fixed, p.pure)
	}
	list := ""
	if len(params) > 0 {
		list = "(" + strings.Join(params, ", ") + ")"
	}
	if twin, is := g.use(api.TContract, 1, false); g.heaps && is {
		k.pure = false
		return "let " + name + list + " = both(" + twin + ", both(" + g.expr(api.TContract, 2, false) + ", " + twin + "));", k
	}
	result := []int{api.TNum, api.TBool, api.TDate, api.TCur, api.TContract, api.TContract, api.TContract}[g.Intn(7)]
	return "let " + name + list + " = " + g.expr(result, 1+g.Intn(5), k.pure) + ";", k
}

// expr is one of a type, which should be a constant, if it is fixed.
func (g *grower) expr(t, levels int, fixed bool) string {
	fixed = fixed && g.Intn(g.odd) > 0
	if levels <= 0 || g.Intn(6) == 0 {
		return g.leaf(t, fixed)
	}
	switch g.Intn(6) {
	case 0:
		return fmt.Sprintf("(if %s then %s else %s)", g.expr(api.TBool, levels-1, fixed || t == api.TCur), g.expr(t, levels-1, fixed), g.expr(t, levels-1, fixed))
	case 1:
		return fmt.Sprintf("ago(%s, %s)", g.days(levels), g.expr(t, levels-1, fixed))
	case 2, 3:
		if text, is := g.use(t, levels, fixed); is {
			return text
		}
	}
	return g.form(t, levels, fixed)
}

// days are mostly such as ago may have.
func (g *grower) days(levels int) string {
	if g.Intn(20) == 0 {
		return g.expr(api.TNum, levels-1, true)
	}
	return g.among("0", "1", "-1", "2", "-2", "7", "3 - 5", "30 * 12", "1 / 2 + 0.5", "1800", "-1800", "3660", "-3660")
}

// use is one of a definition that has a type.
func (g *grower) use(t, levels int, fixed bool) (string, bool) {
	all := slices.Concat(g.far, g.near, g.near)
	order := g.Perm(len(all))
	if g.heaps {
		slices.SortFunc(order, func(a, b int) int { return b - a })
	}
	for _, i := range order {
		k := all[i]
		if k.Result != t && k.Result < api.TVar || fixed && !k.pure {
			continue
		}
		own := map[int]int{k.Result: t}
		var args []string
		for i, p := range k.Params {
			if _, is := own[p]; !is {
				own[p] = p
				if p >= api.TVar {
					own[p] = g.Intn(5)
				}
			}
			args = append(args, g.expr(own[p], levels-1, fixed || k.fixed[i]))
		}
		if len(args) == 0 {
			return k.Name, true
		}
		return k.Name + "(" + strings.Join(args, ", ") + ")", true
	}
	return "", false
}

// form is another one of a type.
func (g *grower) form(t, levels int, fixed bool) string {
	sub := func(t int) string { return g.expr(t, levels-1, fixed) }
	switch t {
	case api.TNum:
		switch g.Intn(4) {
		case 0:
			return "(-" + sub(t) + ")"
		case 1:
			return g.among("years", "years30") + "(" + sub(api.TDate) + ", " + sub(api.TDate) + ")"
		}
		return "(" + sub(t) + g.among(" + ", " - ", " * ", " / ") + sub(t) + ")"
	case api.TBool:
		switch g.Intn(4) {
		case 0:
			return "(not " + sub(t) + ")"
		case 1:
			return "(" + sub(t) + g.among(" and ", " or ") + sub(t) + ")"
		case 2:
			return "before(" + sub(api.TDate) + ", " + sub(api.TDate) + ")"
		}
		return "(" + sub(api.TNum) + g.among(" < ", " <= ", " = ") + sub(api.TNum) + ")"
	case api.TDate:
		return g.among("plus", "months") + "(" + sub(t) + ", " + sub(api.TNum) + ")"
	case api.TContract:
		day := g.expr(api.TDate, levels-1, true)
		switch g.Intn(7) {
		case 0:
			return "give(" + sub(t) + ")"
		case 1:
			return "scale(" + sub(api.TNum) + ", " + sub(t) + ")"
		case 2:
			return "one(" + sub(api.TCur) + ")"
		case 3:
			return "at(" + day + ", " + sub(t) + ")"
		case 4:
			return "when(" + day + ", " + sub(api.TBool) + ", " + sub(t) + ")"
		case 5:
			return `pick "` + g.among("p", "q", "if") + `"(` + day + ", " + sub(t) + ", " + sub(t) + ")"
		}
		return "both(" + sub(t) + ", " + sub(t) + ")"
	}
	return g.leaf(t, fixed)
}

func (g *grower) leaf(t int, fixed bool) string {
	if i := g.Intn(4); i < len(g.params) && g.params[i].Result == t && (g.params[i].pure || !fixed) {
		return g.params[i].Name
	}
	loose := !fixed && g.Intn(2) == 0
	switch {
	case t == api.TNum && loose:
		return `feed "` + g.among("a", "b", "not") + `"`
	case t == api.TNum:
		return g.among("0", "1", "2", "0.5", "0.000001", "12", "1000000000")
	case t == api.TBool:
		return g.among("true", "false")
	case t == api.TDate && loose:
		return "now"
	case t == api.TDate:
		return g.among("1900-01-01", "2000-02-29", "2026-01-31", "2099-12-31")
	case t == api.TCur:
		return g.among("EUR", "USD", "GBP")
	}
	return "zero"
}

// fitting are arguments of a scheme's parameters, if there may be any.
func fitting(r *rand.Rand, params []int) ([]api.Val, bool) {
	var out []api.Val
	types := map[int]int{}
	for _, p := range params {
		if _, is := types[p]; !is {
			types[p] = p
			if p >= api.TVar {
				types[p] = r.Intn(4)
			}
		}
		if types[p] == api.TContract {
			return nil, false
		}
		out = append(out, []api.Val{number([]int64{0, 1, 2000000, -3000000, 3660000000, -api.MaxNum, api.MaxNum}[r.Intn(7)]), truth(r.Int63n(2)), day(r.Int63n(api.MaxDay + 1)), currency([]string{"EUR", "CHF"}[r.Intn(2)])}[types[p]])
	}
	return out, true
}

// entries calls a function with some entries of programs by chance, and arguments that fit.
func entries(t *testing.T, seed int64, programs int, each func(r *rand.Rand, mods []api.Node, far string, args []api.Val)) {
	t.Helper()
	r := rand.New(rand.NewSource(seed))
	for range programs {
		mods, sheets := grown(r)
		for range 4 {
			s := sheets[r.Intn(len(sheets))]
			d := s.Defs[r.Intn(len(s.Defs))]
			if args, is := fitting(r, d.Params); is && d.Result == api.TContract {
				each(r, mods, s.Name+"."+d.Name, args)
			}
		}
	}
}
