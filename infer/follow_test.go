package infer_test

import (
	"fmt"
	"math"
	"math/rand"
	"reflect"
	"slices"
	"testing"

	"usance/api"
	"usance/infer"
)

// sample is an expression of a type.
func sample(t int) api.Node {
	return []api.Node{number(1), truth(1), name("now"), node(api.NCur, "EUR", 0), name("zero")}[t]
}

// applied is a use of a scheme with expressions of these types.
func applied(text string, types []int) api.Node {
	if len(types) == 0 {
		return name(text)
	}
	n := call(text)
	for _, t := range types {
		n.Kids = append(n.Kids, sample(t))
	}
	return n
}

// rightOnes calls a function with modules by chance that have types, and with their sheets.
func rightOnes(t *testing.T, seed int64, each func(n api.Node, sheets []api.Sheet, s api.Sheet)) {
	t.Helper()
	r := rand.New(rand.NewSource(seed))
	some := 0
	for range 3000 {
		g := newGrower(r)
		n := g.module()
		if s, _, e := infer.Module(n, g.sheets); e == api.OK {
			each(n, g.sheets, s)
			some += len(s.Defs)
		}
	}
	if some < 1000 {
		t.Errorf("but %d definitions", some)
	}
}

// P11.4: rows that are added behind change nothing ahead, be they right or wrong.
func TestAhead(t *testing.T) {
	rightOnes(t, 2, func(n api.Node, sheets []api.Sheet, s api.Sheet) {
		imports := len(n.Kids) - len(s.Defs)
		for i := range s.Defs {
			part := n
			part.Kids = n.Kids[:imports+i]
			if got, _, e := infer.Module(part, sheets); e != api.OK || len(got.Defs) != i || i > 0 && !reflect.DeepEqual(got.Defs, s.Defs[:i]) {
				t.Fatalf("%v: %s, %v, want %s", part, shown(got), e, shown(s))
			}
		}
		more := n
		more.Kids = append(slices.Clone(n.Kids), let("more", param("x"), cond(name("x"), number(1), number(2))))
		if got, _, e := infer.Module(more, sheets); e != api.OK || shown(api.Sheet{Defs: got.Defs[:len(s.Defs)]}) != shown(s) {
			t.Fatalf("%v: %s, %v, want %s", more, shown(got), e, shown(s))
		}
	})
}

// P11.4: each use of a definition, within its module and from another one, with all types put in for its variables; with others than these ErrInferType.
func TestEachUse(t *testing.T) {
	rightOnes(t, 3, func(n api.Node, sheets []api.Sheet, s api.Sheet) {
		for _, d := range s.Defs {
			typings := meant(d).typings
			for _, typing := range typings {
				near, far := n, module("other", imported("m"), let("use", applied("m."+d.Name, typing[:len(d.Params)])))
				near.Kids = append(slices.Clone(n.Kids), let("use", applied(d.Name, typing[:len(d.Params)])))
				wantResult(t, near, sheets, d, typing)
				wantResult(t, far, []api.Sheet{s}, d, typing)
			}
			wantNoOthers(t, n, sheets, d, typings)
		}
	})
}

func wantResult(t *testing.T, n api.Node, sheets []api.Sheet, d api.Scheme, typing []int) {
	t.Helper()
	s, _, e := infer.Module(n, sheets)
	if e != api.OK {
		t.Fatalf("%s of %v: %v", infer.Show(d), typing, e)
	}
	if got := s.Defs[len(s.Defs)-1].Result; got != typing[len(d.Params)] && (got != api.TVar || slices.Contains(d.Params, d.Result)) {
		t.Fatalf("%s of %v: %d", infer.Show(d), typing, got)
	}
}

func wantNoOthers(t *testing.T, n api.Node, sheets []api.Sheet, d api.Scheme, typings [][]int) {
	t.Helper()
	for world := range int(math.Pow(ground, float64(len(d.Params)))) {
		var types []int
		for p := range d.Params {
			types = append(types, of(world, p))
		}
		if slices.ContainsFunc(typings, func(l []int) bool { return slices.Equal(l[:len(types)], types) }) {
			continue
		}
		use := n
		use.Kids = append(slices.Clone(n.Kids), let("use", applied(d.Name, types)))
		if _, _, e := infer.Module(use, sheets); e != api.ErrInferType {
			t.Fatalf("%s of %v: %v", infer.Show(d), types, e)
		}
	}
}

// P11.2: long chains of variables that become one, whichever way they are joined.
func TestManyVariables(t *testing.T) {
	r := rand.New(rand.NewSource(4))
	for range 300 {
		var rows []api.Node
		eight := each(8, param)
		class := []int{0, 1, 2, 3, 4, 5, 6, 7}
		body := number(1)
		for range 1 + r.Intn(12) {
			a, b := r.Intn(8), r.Intn(8)
			same := cond(truth(1), name(eight[a].Text), name(eight[b].Text))
			body = call("first", body, same)
			if r.Intn(2) == 0 {
				body = call("second", same, body)
			}
			old := class[b]
			for i := range class {
				if class[i] == old {
					class[i] = class[a]
				}
			}
		}
		rows = append(rows, let("first", param("x"), param("y"), name("x")), let("second", param("x"), param("y"), name("y")))
		rows = append(rows, let("f", append(eight, body)...))
		s, _, e := infer.Module(module("m", rows...), nil)
		want := api.Scheme{Name: "f"}
		first := map[int]int{}
		for _, c := range class {
			if _, is := first[c]; !is {
				first[c] = api.TVar + len(first)
			}
			want.Params = append(want.Params, first[c])
		}
		if e != api.OK || !reflect.DeepEqual(s.Defs[2], want) {
			t.Fatalf("%v: %s, %v, want %s", body, shown(s), e, infer.Show(want))
		}
	}
}

// P11.2: a greatest module with a variable in each node, in time.
func TestGreat(t *testing.T) {
	body := name("x")
	for range 90 {
		body = call("ago", number(1), body)
	}
	var rows []api.Node
	for i := range 40 {
		rows = append(rows, let(fmt.Sprint("f", i), param("x"), body))
	}
	s, _, e := infer.Module(module("m", rows...), nil)
	if e != api.OK || infer.Show(s.Defs[39]) != "f39(a): a" {
		t.Error(shown(s), e)
	}
	chain := []api.Node{let("g0", param("x"), param("y"), cond(truth(1), name("x"), name("y")))}
	for i := 1; i < 200; i++ {
		before := fmt.Sprint("g", i-1)
		chain = append(chain, let(fmt.Sprint("g", i), param("x"), param("y"), call(before, call(before, name("x"), name("y")), call(before, name("y"), name("x")))))
	}
	s, _, e = infer.Module(module("m", chain...), nil)
	if e != api.OK || infer.Show(s.Defs[199]) != "g199(a, a): a" {
		t.Error(shown(s), e)
	}
}

// P11.1: places are whatever the tree says.
func TestPlaces(t *testing.T) {
	for _, at := range []int{0, -1, math.MinInt, math.MaxInt, 20000} {
		bad := name("none")
		bad.At = at
		row := imported("n")
		row.At = at
		twice := let("now", number(1))
		twice.At = at
		for want, n := range map[api.Errno]api.Node{api.ErrInferName: module("m", let("f", unary("-", bad))), api.ErrInferImport: module("m", row), api.ErrInferTwice: module("m", twice)} {
			if _, got, e := infer.Module(n, nil); got != at || e != want {
				t.Errorf("%d, %v, want %d, %v", got, e, at, want)
			}
		}
	}
}

// roomy is a tree whose lists have spare room.
func roomy(n api.Node) api.Node {
	kids := make([]api.Node, 0, len(n.Kids)+3)
	for _, k := range n.Kids {
		kids = append(kids, roomy(k))
	}
	n.Kids = kids
	return n
}

// R3, R4: what is handed in stays as it is, and what is answered is new memory; a call hangs on its arguments alone.
func TestMemory(t *testing.T) {
	text := "module m; import n; let f(x, y) = if x then n.any else y; let g(x, y) = n.swap(x, y, x); let h = n.d;"
	n, sheets := roomy(parsed(t, text)), []api.Sheet{lib("n"), lib("o")}
	sheets[0].Defs[2].Params = append(make([]int, 0, 8), sheets[0].Defs[2].Params...)
	s, _, e := infer.Module(n, sheets)
	want := shown(s)
	if e != api.OK || want != "f(bool, a): a; g(a, b): b; h: date" {
		t.Fatal(want, e)
	}
	if fmt.Sprint(n) != fmt.Sprint(parsed(t, text)) || fmt.Sprint(n.Kids[len(n.Kids):cap(n.Kids)]) != fmt.Sprint(repeat(3, api.Node{})) || !reflect.DeepEqual(sheets, []api.Sheet{lib("n"), lib("o")}) {
		t.Error("what was handed in has changed")
	}
	if spare := sheets[0].Defs[2].Params[:8]; !reflect.DeepEqual(spare[3:], make([]int, 5)) {
		t.Error("spare room was written into", spare)
	}
	again, _, _ := infer.Module(n, sheets)
	for i := range s.Defs {
		d := &s.Defs[i]
		d.Params = append(d.Params, 77)
		for j := range d.Params[:cap(d.Params)] {
			d.Params[:cap(d.Params)][j] = 78
		}
		d.Result, d.Name = 79, "x"
	}
	_ = append(s.Defs, api.Scheme{Name: "y"})
	if shown(again) != want || !reflect.DeepEqual(sheets, []api.Sheet{lib("n"), lib("o")}) {
		t.Error("answers share memory", shown(again))
	}
	if got, _, _ := infer.Module(n, sheets); shown(got) != want {
		t.Error("calls are kept", shown(got))
	}
	shareWithin(t, again)
}

// shareWithin checks that no two lists of an answer share memory, spare room too.
func shareWithin(t *testing.T, s api.Sheet) {
	t.Helper()
	for i := range s.Defs {
		p := s.Defs[i].Params[:cap(s.Defs[i].Params)]
		for j := range p {
			p[j] = 100 + i
		}
	}
	for i := range s.Defs {
		for _, t1 := range s.Defs[i].Params[:cap(s.Defs[i].Params)] {
			if t1 != 100+i {
				t.Error("two lists of an answer share memory")
			}
		}
	}
}

// R3: nil and empty lists are one.
func TestEmpty(t *testing.T) {
	for _, sheets := range [][]api.Sheet{nil, {}} {
		for _, n := range []api.Node{module("m"), {Kind: api.NModule, Text: "m", Kids: []api.Node{}}} {
			if s, at, e := infer.Module(n, sheets); s.Name != "m" || len(s.Defs) != 0 || at != 0 || e != api.OK {
				t.Error(s, at, e)
			}
		}
	}
	s := api.Sheet{Name: "n", Defs: []api.Scheme{{Name: "d", Params: []int{}, Result: api.TBool}}}
	bare := name("n.d")
	bare.Kids = []api.Node{}
	if got, _, e := infer.Module(module("m", imported("n"), let("f", bare)), []api.Sheet{s}); shown(got) != "f: bool" || e != api.OK {
		t.Error(shown(got), e)
	}
}
