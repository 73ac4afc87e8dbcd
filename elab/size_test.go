package elab_test

import (
	"fmt"
	"strings"
	"testing"

	"usance/api"
)

const drop = "let drop(x, y) = x; "

// wide is a number whose term has so many terms, as flat as it can be.
func wide(terms int) string {
	switch terms {
	case 1:
		return "1"
	case 2:
		return "(-1)"
	}
	return "(" + wide((terms-1)/2) + "+" + wide(terms-1-(terms-1)/2) + ")"
}

// deep are rows of definitions, the last of which, its name behind them, has so many terms one in the other; what stands ahead of, behind and within them makes a number or a contract.
func deep(terms int, ahead, behind, bottom string) (string, string) {
	rows, name, count := "", bottom, 1
	for i := 0; count < terms; i++ {
		n := min(90, terms-count)
		rows += fmt.Sprintf("let deep%d = %s%s%s; ", i, strings.Repeat(ahead, n), name, strings.Repeat(behind, n))
		name = fmt.Sprint("deep", i)
		count += n
	}
	return rows, name
}

// is checks whether f is answered an error of the size, or none.
func is(t *testing.T, rows string, small bool, args ...api.Val) {
	t.Helper()
	if got := answer(t, parsed(t, "module m; "+rows), "f", args...); (got == "size") == small || len(got) < 6 && small && got != "CZero" {
		t.Errorf("%.200s: %.200s, want small: %t", rows, got, small)
	}
}

// P13.1: at most 2000 terms, of what is answered and of what is dropped.
func TestTerms(t *testing.T) {
	for _, more := range []int{-1, 0, 1, 2, 500} {
		small := more <= 0
		is(t, "let f = scale("+wide(1998+more)+", zero);", small)
		is(t, drop+"let f = drop(zero, "+wide(2000+more)+");", small)
		is(t, drop+"let f = drop(zero, "+wide(1999+more)+" < 1);", more < 0)
		is(t, "let f = at(plus(2000-01-01, "+wide(1998+more)+"), zero);", small)
		is(t, "let f = when(plus(2000-01-01, "+wide(1998+more)+"), true, zero);", small)
		is(t, `let f = pick "p"(plus(2000-01-01, `+wide(1998+more)+"), zero, zero);", small)
		is(t, "let f = one(if "+wide(1998+more)+" < 1 then EUR else USD);", small)
		is(t, "let f = scale(ago(0 * "+wide(1998+more)+", 1), zero);", small)
		is(t, "let f = ago(0, scale(ago(0, "+wide(1998+more)+"), zero));", small)
		is(t, "let f = if "+wide(1995+more)+" < 1 then zero else zero;", small)
		is(t, "let f = at(2000-01-01, scale("+wide(1997+more)+", zero));", small)
		is(t, "let f = when(2000-01-01, "+wide(1996+more)+" < 1, zero);", small)
		is(t, `let f = pick "p"(2000-01-01, zero, scale(`+wide(1996+more)+", zero));", small)
		is(t, "let f = both(scale("+wide(1000)+", zero), scale("+wide(995+more)+", zero));", small)
	}
	is(t, "let g(x) = x + x; let h = "+wide(998)+"; let f = scale(g(h), give(zero));", true)
	is(t, "let g(x) = x + x; let h = "+wide(998)+"; let f = scale(g(h), give(give(zero)));", false)
	doubles := "let d0 = scale(1, zero); "
	for i := range 199 {
		doubles += fmt.Sprintf("let d%d = both(d%d, d%d); ", i+1, i, i)
	}
	for entry, want := range map[string]bool{"d0": true, "d1": true, "d8": true, "d9": false, "d10": false, "d64": false, "d199": false} { // 2^k * 4 - 1 terms
		if got := answer(t, parsed(t, "module m; "+doubles), entry); (got != "size") != want {
			t.Errorf("%s: %.100s", entry, got)
		}
	}
}

// P13.1: a depth of at most 200.
func TestDepth(t *testing.T) {
	for _, more := range []int{-1, 0, 1, 2, 300} {
		small := more <= 0
		rows, name := deep(199+more, "-", "", "1")
		is(t, rows+"let f = scale("+name+", zero);", small)
		is(t, rows+"let f = scale(ago(1, "+name+"), ago(2, zero));", small)
		is(t, rows+"let f = ago(1, scale("+name+", zero));", small)
		is(t, rows+"let f = at(plus(2000-01-01, "+name+"), zero);", small)
		is(t, rows+"let f = give(give(at(plus(2000-01-01, "+name+"), zero)));", small)
		is(t, rows+drop+"let f = drop(zero, -"+name+");", small)
		is(t, rows+drop+"let f = drop(zero, "+name+");", more <= 1)
		is(t, rows+"let f = one(if 0 < "+name+" then EUR else USD);", small)
		rows, name = deep(200+more, "give(", ")", "zero")
		is(t, rows+"let f = "+name+";", small)
		is(t, rows+"let f = both(zero, "+name+");", more < 0)
		is(t, rows+drop+"let f = drop(zero, "+name+");", small)
		rows, name = deep(199+more, "give(", ")", "zero")
		is(t, rows+"let f = both(zero, "+name+");", small)
		is(t, rows+"let f = both("+name+", zero);", small)
		is(t, rows+"let f = at(2000-01-01, "+name+");", small)
		is(t, rows+"let f = when(2000-01-01, true, "+name+");", small)
		is(t, rows+`let f = pick "p"(2000-01-01, `+name+", zero);", small)
		is(t, rows+"let f = if true then zero else "+name+";", small)
		is(t, rows+"let f(x) = if x < 1 then zero else "+name+";", small, number(1))
	}
}

// P13.1: of ErrElabConst and ErrElabSize the one that is met first. (whole has 1998 terms, big too many.)
func TestWhichFirst(t *testing.T) {
	rows := "let half = " + wide(998) + "; let whole = -(half + half); let big = -(-(-whole)); let inner(x) = at(now, zero); let outer(x, y) = scale(big, zero); "
	for want, texts := range map[string]string{
		"CScale": `scale(1, zero)`,
		"const": `both(at(now, zero), scale(big, zero))
both(scale(whole, zero), at(now, zero))
at(now, scale(whole, zero))
when(now, true, scale(whole, zero))
when(now, whole < 1, zero)
pick "p"(now, scale(whole, zero), zero)
pick "p"(now, zero, scale(whole, zero))
scale(ago(0.5, 1) + big, zero)
scale(ago(0.5, -(-whole)), zero)
scale(ago(1, ago(3660, feed "a")) + big, zero)
one(if before(now, now) then (if before(now, now) then EUR else USD) else GBP)
one(if true then EUR else ago(0.5, USD))
one(if true then EUR else (if before(now, now) then EUR else USD))
if true then zero else at(now, zero)
inner(1)
inner(ago(0.5, 1))
inner(-(-whole))
outer(ago(0.5, 1), 1)
outer(ago(0.5, 1), big)
outer(1, ago(0.5, 1))
both(inner(1), outer(1, 1))
give(give(both(zero, both(scale(1, at(now, zero)), scale(big, zero)))))`,
		"size": `both(scale(big, zero), at(now, zero))
at(2000-01-01, scale(whole, zero))
at(now, scale(big, zero))
when(2000-01-01, true, scale(whole, zero))
when(now, big < 1, zero)
when(now, -whole < 1, zero)
pick "p"(2000-01-01, scale(whole, zero), zero)
pick "p"(now, zero, scale(big, zero))
scale(ago(0.5, big), zero)
scale(ago(big, ago(0.5, 1)), zero)
scale(big + ago(0.5, 1), zero)
scale(-(-(-whole)), zero)
scale(big + ago(1, ago(3660, feed "a")), zero)
one(if before(now, now) then EUR else (if big < 1 then EUR else USD))
one(if big < 1 then EUR else ago(0.5, USD))
one(if true then EUR else (if big < 1 then EUR else USD))
if true then zero else scale(big, zero)
inner(big)
outer(1, 1)
outer(big, ago(0.5, 1))
both(outer(1, 1), inner(1))
give(give(both(zero, both(scale(1, scale(big, zero)), at(now, zero)))))`,
	} {
		for _, text := range strings.Split(texts, "\n") {
			got := answer(t, parsed(t, "module m; "+rows+"let f = "+text+";"), "f")
			if got, _, _ = strings.Cut(got, " "); got != want {
				t.Errorf("%s: %s, want %s", text, got, want)
			}
		}
	}
}

// heaps are rows of definitions, each with more than twice the work of the one ahead, and these works.
func heaps() (string, []int) {
	rows, works := drop+"let p0 = 1; ", []int{1}
	for i := range 14 {
		rows += fmt.Sprintf("let p%d = drop(p%d, p%d); ", i+1, i, i)
		works = append(works, 4+2*works[i])
	}
	return rows, works
}

// heavy is a number whose work is just that, beside heaps.
func heavy(work int) string {
	_, works := heaps()
	out, left := "1", work-1
	for i := len(works) - 1; i >= 0; i-- {
		for ; left >= works[i]+3; left -= works[i] + 3 {
			out = fmt.Sprintf("drop(%s, p%d)", out, i)
		}
	}
	for ; left >= 3; left -= 3 {
		out = "drop(" + out + ", 1)"
	}
	return strings.Repeat("-(", left) + out + strings.Repeat(")", left)
}

// P13.1: an entry's work is at most 100000.
func TestWork(t *testing.T) {
	rows, works := heaps()
	if works[14] != 81916 {
		t.Error(works)
	}
	one := number(1)
	for _, more := range []int{-3, -2, -1, 0, 1, 2, 3, 1000, 100000} {
		small := more <= 0
		is(t, rows+"let f = scale("+heavy(99998+more)+", zero);", small)
		is(t, rows+"let f(a, b, c, d, e, f, g, h) = scale("+heavy(99998+more)+", zero);", small, one, one, one, one, one, one, one, one)
		is(t, rows+"let big = "+heavy(90000)+"; let f(big, drop) = scale(big + drop, zero);", true, one, one)
		is(t, rows+"let big = "+heavy(90000)+"; let g = "+heavy(99995+more)+"; let f(big) = scale(big, scale(g, zero));", small, one)
		is(t, rows+"let big = "+heavy(90000)+"; let g = "+heavy(9993+more)+"; let f(n) = scale(big, scale(g, scale(n, zero)));", small, one)
		is(t, rows+"let g(x) = scale("+heavy(89000)+", x); let f = give(both(g(zero), scale("+heavy(10992+more)+", zero)));", small)
		is(t, rows+"let g(x) = scale("+heavy(49990)+", x); let f = both(g(zero), g(scale("+heavy(10+more)+", zero)));", small)
		is(t, rows+"let g = scale("+heavy(99998+more)+", at(now, zero)); let f = zero;", true)
		want := "size"
		if small {
			want = "const"
		}
		becomes(t, rows+"let f = scale("+heavy(99996+more)+", at(now, zero));", want)
		becomes(t, rows+"let g = scale("+heavy(99995+more)+", at(now, zero)); let f = g;", want)
		becomes(t, rows+"let f(x) = scale("+heavy(99998+more)+", zero);", "args")
		becomes(t, rows+"let f(x) = "+heavy(99998+more)+";", "entry", one)
	}
}

// doubled are 16 modules of definitions, each of which uses the one ahead twice.
func doubled(t *testing.T, bottom string) []api.Node {
	t.Helper()
	var texts []string
	ahead := bottom
	for m := range 16 {
		text := fmt.Sprintf("module m%d; ", m)
		if m > 0 {
			text += fmt.Sprintf("import m%d; ", m-1)
		}
		for d := range 199 {
			text += fmt.Sprintf("let d%d = both(%s, %s); ", d, ahead, ahead)
			ahead = fmt.Sprint("d", d)
		}
		ahead = fmt.Sprintf("m%d.%s", m, ahead)
		texts = append(texts, text+"let e = zero;")
	}
	return parsed(t, texts...)
}

// P13.1: the works of other modules' definitions count, too; those that nobody uses do not, however great they are.
func TestWorkOfMany(t *testing.T) {
	mods := doubled(t, "zero")
	for entry, want := range map[string]string{"e": "CZero", "m0.e": "CZero", "m0.d0": "CBoth (CZero, CZero)", "m0.d13": "size", "m1.d0": "size", "d0": "size", "d198": "size"} {
		if got := answer(t, mods, entry); got != want {
			t.Errorf("%s: %s, want %s", entry, got, want)
		}
	}
	mods = doubled(t, "at(now, zero)") // what is done, and not refused, is answered const
	for m := range 16 {
		for d := range 199 {
			want := "size"
			if m == 0 && d <= 13 { // the work is 6 * 2^(d+1) - 3
				want = "const"
			}
			if entry := fmt.Sprintf("m%d.d%d", m, d); m == 0 || d%40 == m%40 {
				if got := answer(t, mods, entry); got != want {
					t.Errorf("%s: %s, want %s", entry, got, want)
				}
			}
		}
	}
	rows, _ := heaps()
	for _, more := range []int{-1, 0, 1, 2} {
		far := parsed(t, "module a; "+rows+"let g(x) = scale("+heavy(50000)+", x);", "module b; import a; "+rows+"let f = a.g(scale("+heavy(49995+more)+", zero));")
		if got := answer(t, far, "f"); (got != "size") != (more <= 0) {
			t.Errorf("%d more: %s", more, got)
		}
	}
}
