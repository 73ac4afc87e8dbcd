package infer_test

import (
	"reflect"
	"strings"
	"testing"

	"usance/api"
	"usance/infer"
	"usance/syntax"
)

// parsed is the tree of a text, which must be one.
func parsed(t *testing.T, text string) api.Node {
	t.Helper()
	n, at, e := syntax.Module(text)
	if e != api.OK {
		t.Fatalf("%s: no module: %v at %d", text, e, at)
	}
	return n
}

// shown are a sheet's schemes as texts.
func shown(s api.Sheet) string {
	var out []string
	for _, d := range s.Defs {
		out = append(out, infer.Show(d))
	}
	return strings.Join(out, "; ")
}

// types checks the types of a module that has these rows.
func types(t *testing.T, rows, want string, sheets ...api.Sheet) {
	t.Helper()
	s, at, e := infer.Module(parsed(t, "module m; "+rows), sheets)
	if got := shown(s); got != want || at != 0 || e != api.OK || s.Name != "m" {
		t.Errorf("%s: %s %s, %d, %v, want %s", rows, s.Name, got, at, e, want)
	}
}

// fault checks what is wrong with a module that has these rows, at the place where @ stands (which is no part of them).
func fault(t *testing.T, rows string, want api.Errno, sheets ...api.Sheet) {
	t.Helper()
	ahead, behind, is := strings.Cut("module m; "+rows, "@")
	if !is {
		t.Fatal(rows, "says no place")
	}
	s, at, e := infer.Module(parsed(t, ahead+behind), sheets)
	if at != len(ahead) || e != want || !reflect.DeepEqual(s, api.Sheet{}) {
		t.Errorf("%s: %v, %d, %v, want %d, %v", rows, s, at, e, len(ahead), want)
	}
}

// lib is a sheet with definitions of many sorts.
func lib(name string) api.Sheet {
	v := api.TVar
	return api.Sheet{Name: name, Defs: []api.Scheme{
		{Name: "d", Result: api.TDate},
		{Name: "any", Result: v + 15},
		{Name: "swap", Params: []int{v + 7, v + 3, v + 7}, Result: v + 3},
		{Name: "now", Params: []int{api.TBool}, Result: api.TCur},
		{Name: "d", Params: []int{api.TNum}, Result: api.TNum},
		{Name: "eight", Params: []int{v, v + 1, v + 2, v + 3, v, v + 1, v + 2, v + 3}, Result: api.TContract},
	}}
}

// P11.1, P11.2: the chapter's examples, and those of the whole that are this layer's.
func TestExamples(t *testing.T) {
	types(t, "let choose(b, x, y) = if b then x else y;", "choose(bool, a, a): a")
	types(t, "let first(x, y) = x; let late(x) = ago(2, x);", "first(a, b): a; late(a): a")
	types(t, "let bond(c, n, d) = at(d, scale(n, one(c))); let b = bond(EUR, 1, now);", "bond(currency, num, date): contract; b: contract")
	fault(t, "let a = 1 + @true;", api.ErrInferType)
	fault(t, "let a = @b;", api.ErrInferName)
	fault(t, "let a = @one;", api.ErrInferArgs)
	fault(t, "let @now = 1;", api.ErrInferTwice)
	types(t, "let choose(b, x, y) = if b then x else y; let c = one(choose(feed \"eur\" < 1, EUR, USD)); let n = choose(true, 1, 2); let d = choose(true, now, 2026-01-31);",
		"choose(bool, a, a): a; c: contract; n: num; d: date")
}

// P11.2: what is built in, each with parameters of its own about it.
func TestBuiltIn(t *testing.T) {
	for call, want := range map[string]string{
		"f = now": "f: date", "f = zero": "f: contract",
		"f(x) = one(x)": "f(currency): contract", "f(x) = give(x)": "f(contract): contract",
		"f(x, y) = scale(x, y)": "f(num, contract): contract", "f(x, y) = both(x, y)": "f(contract, contract): contract",
		"f(x, y) = at(x, y)": "f(date, contract): contract", "f(x, y, z) = when(x, y, z)": "f(date, bool, contract): contract",
		"f(x, y) = ago(x, y)": "f(num, a): a", "f(x, y) = plus(x, y)": "f(date, num): date", "f(x, y) = months(x, y)": "f(date, num): date",
		"f(x, y) = years(x, y)": "f(date, date): num", "f(x, y) = years30(x, y)": "f(date, date): num", "f(x, y) = before(x, y)": "f(date, date): bool",
	} {
		types(t, "let "+call+";", want)
		name, _, _ := strings.Cut(strings.Split(call, " = ")[1], "(")
		fault(t, "let f = 1; let @"+name+" = 1;", api.ErrInferTwice)
		fault(t, "let @"+name+"(x) = x;", api.ErrInferTwice)
		if has := strings.Contains(call, "("); has {
			fault(t, "let f = @"+name+";", api.ErrInferArgs)
			fault(t, "let f = @"+name+"(1, 1, 1, 1);", api.ErrInferArgs)
		} else {
			fault(t, "let f = @"+name+"(1);", api.ErrInferArgs)
		}
	}
	for _, name := range []string{"feeds", "nows", "ones", "year", "years3", "years300", "min", "max", "abs", "day", "a"} {
		fault(t, "let f = @"+name+";", api.ErrInferName)
		fault(t, "let f = @"+name+"(1);", api.ErrInferName)
		types(t, "let "+name+" = 1;", name+": num")
	}
}

// P11.2: expressions of each Kind.
func TestKinds(t *testing.T) {
	for expr, want := range map[string]string{
		"1.5": "num", `feed "now"`: "num", "true": "bool", "false": "bool", "2026-01-31": "date", "EUR": "currency", `pick "p"(x, y, z)`: "contract",
		"-x": "num", "not x": "bool", "x or y": "bool", "x and y": "bool", "x < y": "bool", "x <= y": "bool", "x = y": "bool",
		"x + y": "num", "x - y": "num", "x * y": "num", "x / y": "num", "if x then 1 else 2": "num", "if x then EUR else USD": "currency",
		"if x then now else 2026-01-31": "date", "if x then zero else one(EUR)": "contract", "if x then true else false": "bool",
	} {
		s, _, e := infer.Module(parsed(t, "module m; let f(x, y, z) = "+expr+";"), nil)
		if e != api.OK || len(s.Defs) != 1 || !strings.HasSuffix(infer.Show(s.Defs[0]), "): "+want) {
			t.Errorf("%s: %s, %v, want %s", expr, shown(s), e, want)
		}
	}
	types(t, `let f(x, y, z) = pick "p"(x, y, z);`, "f(date, contract, contract): contract")
	types(t, "let f(x) = -x; let g(x) = not x; let h(x, y) = x or y; let i(x, y) = x and y;", "f(num): num; g(bool): bool; h(bool, bool): bool; i(bool, bool): bool")
	for _, sign := range []string{"<", "<=", "="} {
		types(t, "let f(x, y) = x "+sign+" y;", "f(num, num): bool")
	}
	for _, sign := range []string{"+", "-", "*", "/"} {
		types(t, "let f(x, y) = x "+sign+" y;", "f(num, num): num")
	}
	types(t, "let f(x, y, z) = if x then y else z; let g(x) = if x then x else x;", "f(bool, a, a): a; g(bool): bool")
}

// P11.2: which variables are one, and in which order they count.
func TestVariables(t *testing.T) {
	types(t, "let f(a, b, c) = c;", "f(a, b, c): c")
	types(t, "let f(a, b, c) = b;", "f(a, b, c): b")
	types(t, "let f(a, b, c) = if true then c else b;", "f(a, b, b): b")
	types(t, "let f(a, b, c) = if true then c else a;", "f(a, b, a): a")
	types(t, "let f(a, b, c) = if a then 1 else 2;", "f(bool, a, b): num")
	types(t, "let f(a, b, c) = if a then b else 2;", "f(bool, num, a): num")
	types(t, "let f(a, b, c) = if true then ago(1, b) else (if true then c else a);", "f(a, a, a): a")
	types(t, "let f(a, b, c, d, e, f, g, h) = 1;", "f(a, b, c, d, e, f, g, h): num")
	types(t, "let f(a, b, c, d, e, f, g, h) = h;", "f(a, b, c, d, e, f, g, h): h")
	types(t, "let f(a, b, c, d, e, f, g, h) = if a then (if true then b else d) else (if true then d else h);", "f(bool, a, b, a, c, d, e, a): a")
	types(t, "let pair(x, y, z) = if true then x else y; let f(a, b, c, d) = pair(pair(a, b, 1), pair(c, d, 2), now);", "pair(a, a, b): a; f(a, a, a, a): a")
	types(t, "let f(a, b, c, d) = if (if true then a else b) then (if true then c else d) else c;", "f(bool, bool, a, a): a")
	types(t, "let k(x, y) = x; let f(a, b, c) = k(a, if true then b else c);", "k(a, b): a; f(a, b, b): a")
	types(t, "let k(x, y) = x; let f(a, b, c) = k(a, b + 1);", "k(a, b): a; f(a, num, b): a")
}

// P11.2: each use has variables of its own; a parameter has one type.
func TestUses(t *testing.T) {
	types(t, "let id(x) = x; let f = if id(true) then id(id(1)) else id(2); let g(x) = both(id(zero), at(id(x), one(id(EUR))));", "id(a): a; f: num; g(date): contract")
	types(t, "let f(x, y) = if ago(1, x) then ago(2, y) else ago(3, y);", "f(bool, a): a")
	types(t, "let id(x) = x; let f(x, y) = if id(x) then id(y) else y;", "id(a): a; f(bool, a): a")
	fault(t, "let f(x) = if x then @x + 1 else 2;", api.ErrInferType)
	fault(t, "let id(x) = x; let f(x) = if id(x) then @id(x) + 1 else 2;", api.ErrInferType)
	fault(t, "let f(x) = both(x, @x(zero));", api.ErrInferArgs)
	fault(t, "let f(x) = at(x, @ago(1, x));", api.ErrInferType)
	types(t, "import n; let f(x) = if n.any then n.any else x; let g = one(n.any); let h = n.any;", "f(a): a; g: contract; h: a", lib("n"))
}
