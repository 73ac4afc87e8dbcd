package infer_test

import (
	"testing"

	"usance/api"
)

// P11.1: Imports: the own name, one twice, none of a sheet's; the first of them, and which error comes first.
func TestImports(t *testing.T) {
	n, o, m := lib("n"), lib("o"), lib("m")
	types(t, "import n;", "", n)
	types(t, "import o; import n;", "", n, o)
	types(t, "", "", n, o, m)
	fault(t, "import @n;", api.ErrInferImport)
	fault(t, "import @n;", api.ErrInferImport, o, m)
	fault(t, "import @m;", api.ErrInferTwice)
	fault(t, "import @m;", api.ErrInferTwice, m)
	fault(t, "import n; import @n;", api.ErrInferTwice, n)
	fault(t, "import n; import o; import @n;", api.ErrInferTwice, n, o)
	fault(t, "import @p; import p;", api.ErrInferImport, n)
	fault(t, "import n; import @m; import p;", api.ErrInferTwice, n)
	fault(t, "import n; import @p; import m; import n;", api.ErrInferImport, n)
	fault(t, "import n; import @n; import p;", api.ErrInferTwice, n)
	fault(t, "import n; import @p; let now = b;", api.ErrInferImport, n)
	fault(t, "import n; import @n; let now = b;", api.ErrInferTwice, n)
}

// P11.1: a far name means the first such definition of the first such sheet, if the module imports it.
func TestFarNames(t *testing.T) {
	n, o := lib("n"), api.Sheet{Name: "o", Defs: []api.Scheme{{Name: "d", Result: api.TBool}, {Name: "now", Result: api.TNum}}}
	types(t, "import n; let f = n.d;", "f: date", n, o)
	types(t, "import o; import n; let f = n.d; let g = o.d;", "f: date; g: bool", n, o)
	types(t, "import n; let f(x, y, z) = n.swap(x, y, z); let g = n.swap(1, EUR, 2);", "f(a, b, a): b; g: currency", n)
	types(t, "import n; let f(x) = n.now(x); let g = now;", "f(bool): currency; g: date", n)
	types(t, "import n; let f(a, b, c, d, e, f, g, h) = n.eight(a, b, c, d, e, f, g, h);", "f(a, b, c, d, a, b, c, d): contract", n)
	types(t, "import n; let d = n.d; let n = d; let f(n) = n.d; let g(d) = n.d;", "d: date; n: date; f(a): date; g(a): date", n)
	second := api.Sheet{Name: "n", Defs: []api.Scheme{{Name: "d", Result: api.TNum}, {Name: "more", Result: api.TNum}}}
	types(t, "import n; let f = n.d;", "f: date", n, second)
	types(t, "import n; let f = n.d; let g = n.more;", "f: num; g: num", second, n)
	fault(t, "import n; let f = @n.more;", api.ErrInferName, n, second)
	fault(t, "import n; let f = @n.d(1);", api.ErrInferArgs, n)
	fault(t, "import n; let f = @n.now;", api.ErrInferArgs, n)
	fault(t, "import n; let f = @n.swap(1, 2);", api.ErrInferArgs, n)
	fault(t, "import n; let f = n.swap(1, 2, @now);", api.ErrInferType, n)
	fault(t, "let f = @n.d;", api.ErrInferName, n)
	fault(t, "import o; let f = @n.d;", api.ErrInferName, n, o)
	fault(t, "import o; let f = @n.d(1);", api.ErrInferName, n, o)
	fault(t, "import n; let g = 1; let f = @n.g;", api.ErrInferName, n)
	fault(t, "import n; let f = @n.zero;", api.ErrInferName, n)
	fault(t, "import n; let f = @d;", api.ErrInferName, n)
	fault(t, "let g = 1; let f = @m.g;", api.ErrInferName, lib("m"))
	fault(t, "let f = @m.d;", api.ErrInferName, lib("m"))
	fault(t, "let f = @m.now;", api.ErrInferName)
}

// P11.1: what a near name means: a parameter, else a definition ahead, else what is built in.
func TestNearNames(t *testing.T) {
	types(t, "let f(now) = now + 1; let g = now;", "f(num): num; g: date")
	types(t, "let f(one, zero) = scale(one, zero); let g = one(EUR);", "f(num, contract): contract; g: contract")
	types(t, "let g = EUR; let f(g) = not g; let h = one(g);", "g: currency; f(bool): bool; h: contract")
	types(t, "let f(f) = f;", "f(a): a")
	fault(t, "let f = @f;", api.ErrInferName)
	fault(t, "let f(x) = @f(x);", api.ErrInferName)
	fault(t, "let f = @g; let g = 1;", api.ErrInferName)
	fault(t, "let f(x) = x; let g = @x;", api.ErrInferName)
	fault(t, "let f(now) = @now(1);", api.ErrInferArgs)
	fault(t, "let f(one) = @one(EUR);", api.ErrInferArgs)
	fault(t, "let g(x) = x; let f(g) = @g(1);", api.ErrInferArgs)
	fault(t, "let g(x) = x; let f = @g;", api.ErrInferArgs)
	fault(t, "let g(x) = x; let f = @g(1, 2);", api.ErrInferArgs)
	fault(t, "let g = 1; let f = @g(1);", api.ErrInferArgs)
}

// P11.1: names of Lets and Params that stand twice.
func TestTwice(t *testing.T) {
	fault(t, "let f = 1; let @f = 2;", api.ErrInferTwice)
	fault(t, "let f = 1; let g = 2; let @f(x) = x;", api.ErrInferTwice)
	fault(t, "let f(x, @x) = x;", api.ErrInferTwice)
	fault(t, "let f(x, y, z, @y, x) = x;", api.ErrInferTwice)
	fault(t, "let f(a, b, c, d, e, f, g, @a) = x;", api.ErrInferTwice)
	types(t, "let f(x) = x; let g(x) = x; let m = 1; let x(y) = y;", "f(a): a; g(a): a; m: num; x(a): a")
	types(t, "import n; let n = 1; let swap = 2; let d(n) = n;", "n: num; swap: num; d(a): a", lib("n"))
}

// P11.1: of several faults the first one.
func TestOrder(t *testing.T) {
	fault(t, "let @now(x, x) = b;", api.ErrInferTwice)
	fault(t, "let f(x, @x) = b; let now = 1;", api.ErrInferTwice)
	fault(t, "let f(x) = @b; let f = 1;", api.ErrInferName)
	fault(t, "let f = 1 + @true; let f = b;", api.ErrInferType)
	fault(t, "let f = @b(true + c);", api.ErrInferName)
	fault(t, "let f = @one(b, true + c);", api.ErrInferArgs)
	fault(t, "let f = @one(b, c) + d;", api.ErrInferArgs)
	fault(t, "let f = one(@b) + d;", api.ErrInferName)
	fault(t, "let f = @one(EUR) + d;", api.ErrInferType)
	fault(t, "let f = 1 + @d(true) + now;", api.ErrInferName)
	fault(t, "import n; let f = n.swap(1, 2, @true) + now;", api.ErrInferType, lib("n"))
	fault(t, "let f = scale(@zero, b);", api.ErrInferType)
	fault(t, "let f = scale(1, @b);", api.ErrInferName)
	fault(t, "let f = scale(1 + @zero, b);", api.ErrInferType)
	fault(t, "let f = when(now, @1, 2);", api.ErrInferType)
	fault(t, "let f = when(now, true, @2);", api.ErrInferType)
	fault(t, "let f = if @1 then 2 else true;", api.ErrInferType)
	fault(t, "let f = if true then 2 else @true;", api.ErrInferType)
	fault(t, "let f = if true then 2 + @true else true;", api.ErrInferType)
	fault(t, "let f = if true then not @2 else b;", api.ErrInferType)
	fault(t, "let f = -@true;", api.ErrInferType)
	fault(t, "let f = not (not @1);", api.ErrInferType)
	fault(t, "let f = true and 1 @+ 2;", api.ErrInferType)
	fault(t, "let f = 1 < 2 or 3 < 4 or @5;", api.ErrInferType)
	fault(t, `let f = pick "p"(@zero, 1, 2);`, api.ErrInferType)
	fault(t, `let f = pick "p"(now, @1, 2);`, api.ErrInferType)
	fault(t, `let f = pick "p"(now, zero, @2);`, api.ErrInferType)
	fault(t, `let f = @feed "a" and true;`, api.ErrInferType)
	fault(t, "let f(x) = (x + 1) * (if @x then 1 else 2);", api.ErrInferType)
	fault(t, "let f(x) = if x then 1 else @x;", api.ErrInferType)
	fault(t, "let f(x, y) = if (if true then x else y) then x else ago(1, @y + 1);", api.ErrInferType)
}
