package opt_test

import (
	"testing"

	"usance/api"
	"usance/causal"
)

// law is a rule of the chapter's table: what stands at the left, and at the right.
type law struct {
	pass        int
	left, right string
}

// laws are those of the chapter, but PassFold's: n and m are any numbers that may stand there, all other letters any terms.
func laws() []law {
	return []law{
		{2, "ONeg (ONeg (x))", "x"}, {2, "ONot (ONot (x))", "x"},
		{2, "OAdd (x, 0)", "x"}, {2, "OAdd (0, x)", "x"}, {2, "OSub (x, 0)", "x"}, {2, "OMul (x, 1)", "x"}, {2, "OMul (1, x)", "x"}, {2, "ODiv (x, 1)", "x"},
		{2, "OAnd (true, x)", "x"}, {2, "OAnd (x, true)", "x"}, {2, "OOr (false, x)", "x"}, {2, "OOr (x, false)", "x"},
		{2, "OAnd (false, x)", "false"}, {2, "OOr (true, x)", "true"},
		{2, "CGive (CGive (c))", "c"}, {2, "CGive (CZero)", "CZero"},
		{2, "CBoth (CZero, c)", "c"}, {2, "CBoth (c, CZero)", "c"},
		{2, "CScale (1, c)", "c"}, {2, "CScale (ONum n, CZero)", "CZero"},
		{2, "CAt n (CAt m (c))", "CAt max (c)"},
		{4, "OIf (true, x, y)", "x"}, {4, "CIf (true, c, d)", "c"}, {4, "OIf (false, x, y)", "y"}, {4, "CIf (false, c, d)", "d"},
		{4, "CWhen n (false, c)", "CWhen n (false, CZero)"},
	}
}

// samples are terms that no rule fits, of each type.
func samples() []string {
	return []string{
		"OFeed eur 0", "OSub (ONum 7, OFeed eur 3)", "ONeg (OFeed a 1)", "OIf (OLt (OFeed a 0, 1), OFeed a 0, 0)",
		"OLt (OFeed eur 0, 0)", "ONot (OEq (OFeed a 0, OFeed b 0))", "OAnd (OLe (OFeed a 0, 0), OBefore (ONow 0, ODate 9))",
		"ONow 0", "OPlus (ONow 3, 1)", "OMonths (ONow 0, OFeed eur 0)",
		"COne EUR", "CGive (COne USD)", "CScale (OFeed eur 0, COne EUR)", "CBoth (COne EUR, CAt 5 (COne USD))", "CPick 9 ex (COne EUR, CZero)",
	}
}

// numbers are pairs that may stand for n and m, wherever these stand.
func numbers() []map[string]int64 {
	return []map[string]int64{{"n": 5, "m": 9}, {"n": 9, "m": 5}, {"n": 7, "m": 7}, {"n": 0, "m": 73048}, {"n": 73048, "m": 0}, {"n": 1, "m": 0}}
}

// P16.1: each rule is done by its own pass, whatever stands for its letters, and by no other one.
func TestLaws(t *testing.T) {
	for _, l := range laws() {
		tried := 0
		for i, x := range samples() {
			for j, nums := range numbers() {
				y := samples()[(i+j)%len(samples())]
				p := put{map[string]api.Core{"x": read(x), "c": read(x), "y": read(y), "d": read(y)}, nums}
				left, right := p.in(read(l.left)), p.in(read(l.right))
				if _, is := causal.Type(left); !is {
					continue
				}
				tried++
				for passes := range 16 {
					if passes&l.pass > 0 {
						becomes(t, left, passes, right)
					} else {
						becomes(t, left, passes, left)
					}
				}
			}
		}
		if tried < 6 {
			t.Error(l, tried)
		}
	}
}

// letters are terms for letters, that no rule fits, and that make no other one fit.
func letters() put {
	return put{terms: map[string]api.Core{
		"x": read("OFeed eur 0"), "y": read("OSub (ONum 7, OFeed eur 3)"), "b": read("OLt (OFeed eur 0, 0)"), "e": read("OEq (OFeed a 0, OFeed b 0)"), "s": read("ONow 0"),
		"c": read("COne EUR"), "d": read("CScale (OFeed eur 0, COne USD)"),
	}}
}

// P16.1: what is nearly a rule's left is none.
func TestNoLaws(t *testing.T) {
	p := letters()
	for _, text := range []string{
		"ONeg (x)", "ONeg (OSub (x, y))", "ONeg (OAdd (ONeg (x), y))", "ONeg (OIf (b, ONeg (x), y))", "ONot (b)", "ONot (OAnd (ONot (b), e))",
		"OAdd (x, 1)", "OAdd (1, x)", "OAdd (x, x)", "OAdd (x, ONum 1)", "OAdd (x, ONum -1)", "OAdd (OAdd (ONum 2, x), ONum 3)", "OSub (0, x)", "OSub (x, 1)", "OSub (x, x)", "OSub (x, ONum 1)",
		"OMul (x, 0)", "OMul (0, x)", "OMul (x, ONum 1)", "OMul (ONum 1, x)", "OMul (x, ONum 999999)", "OMul (ONum 1000001, x)", "OMul (x, ONum -1000000)", "OMul (x, x)", "ODiv (1, x)", "ODiv (0, x)", "ODiv (x, 0)", "ODiv (x, x)", "ODiv (x, ONum 1)", "ODiv (x, ONum -1000000)",
		"OLt (x, x)", "OLe (x, x)", "OEq (x, x)", "OLt (x, 0)", "OLe (0, x)", "OEq (x, 1)", "OAnd (b, b)", "OAnd (b, false)", "OOr (b, b)", "OOr (b, true)", "OAnd (b, ONot (b))",
		"OBefore (s, s)", "OPlus (s, 0)", "OPlus (ODate 5, x)", "OMonths (s, 0)", "OYears (s, s)", "OYears30 (s, ODate 0)", "OIf (b, x, x)", "OIf (b, true, false)", "OIf (b, s, s)", "OIf (ONot (b), x, y)",
		"CGive (c)", "CGive (CBoth (c, d))", "CGive (CScale (x, CGive (c)))", "CGive (CAt 5 (CGive (c)))", "CGive (CAt 5 (CZero))", "CBoth (c, c)", "CBoth (c, CGive (c))", "CBoth (CAt 5 (CZero), CAt 5 (CZero))",
		"CScale (x, CZero)", "CScale (x, c)", "CScale (0, c)", "CScale (ONum 1, c)", "CScale (ONum 999999, c)", "CScale (ONum -1000000, c)", "CScale (ONum 2, CScale (ONum 3, c))", "CScale (ONum 5, CAt 9 (CZero))", "CScale (x, CScale (ONum 3, c))",
		"CIf (b, c, c)", "CIf (b, CZero, CZero)", "CIf (ONot (b), c, d)", "CAt 5 (CZero)", "CAt 0 (c)", "CAt 73048 (c)", "CAt 5 (CGive (CAt 9 (c)))", "CAt 5 (CBoth (CAt 9 (c), CAt 9 (d)))", "CAt 5 (CWhen 9 (b, c))", "CAt 5 (CPick 5 ex (c, d))",
		"CWhen 5 (true, c)", "CWhen 5 (true, CZero)", "CWhen 5 (false, CZero)", "CWhen 5 (b, CZero)", "CWhen 5 (b, CWhen 5 (b, c))", "CWhen 0 (b, c)", "CPick 5 ex (CZero, CZero)", "CPick 5 ex (c, c)", "CPick 0 ex (c, CZero)", "CPick 5 ex (c, CPick 5 ex (c, d))",
	} {
		c := p.in(read(text))
		for passes := range 16 {
			becomes(t, c, passes, c)
		}
	}
}

// P16.1: kids first, then the term itself, as long as a rule fits; and each pass its own part of that.
func TestManyRules(t *testing.T) {
	for _, test := range []struct {
		left   string
		passes int
		right  string
	}{
		{"OAdd (OAdd (ONum 2, ONum 3), OMul (1, ONum 4))", 1, "ONum 9"},
		{"OAdd (OAdd (ONum 2, ONum 3), OMul (1, ONum 4))", 2, "OAdd (OAdd (ONum 2, ONum 3), ONum 4)"},
		{"OAdd (x, OSub (ONum 3, ONum 3))", 1, "OAdd (x, 0)"},
		{"OAdd (x, OSub (ONum 3, ONum 3))", 2, "OAdd (x, OSub (ONum 3, ONum 3))"},
		{"OAdd (x, OSub (ONum 3, ONum 3))", 3, "x"},
		{"OAdd (0, OMul (1, ODiv (OSub (x, 0), 1)))", 2, "x"},
		{"ONeg (ONeg (ONeg (ONeg (ONeg (x)))))", 2, "ONeg (x)"},
		{"ONeg (OAdd (ONeg (x), 0))", 2, "x"},
		{"ONeg (OIf (OLt (0, 1), ONeg (x), y))", 1, "ONeg (OIf (true, ONeg (x), y))"},
		{"ONeg (OIf (OLt (0, 1), ONeg (x), y))", 6, "ONeg (OIf (OLt (0, 1), ONeg (x), y))"},
		{"ONeg (OIf (OLt (0, 1), ONeg (x), y))", 5, "ONeg (ONeg (x))"},
		{"ONeg (OIf (OLt (0, 1), ONeg (x), y))", 7, "x"},
		{"OAnd (true, false)", 1, "OAnd (true, false)"}, {"OAnd (true, false)", 4, "OAnd (true, false)"}, {"OAnd (true, false)", 2, "false"}, {"OAnd (false, true)", 2, "false"},
		{"OOr (true, false)", 1, "OOr (true, false)"}, {"OOr (false, true)", 2, "true"}, {"OOr (true, true)", 2, "true"}, {"OOr (false, false)", 2, "false"},
		{"OIf (true, ONum 2, ONum 3)", 3, "OIf (true, ONum 2, ONum 3)"}, {"OIf (OIf (false, true, false), x, OIf (true, y, x))", 4, "y"},
		{"OAnd (OOr (false, ONot (ONot (b))), ONot (false))", 3, "b"}, {"OAnd (OOr (false, ONot (ONot (b))), ONot (false))", 2, "OAnd (b, ONot (false))"},
		{"OAnd (OEq (x, x), OAnd (false, b))", 2, "OAnd (OEq (x, x), false)"},
		{"CGive (CGive (CGive (CGive (CGive (c)))))", 2, "CGive (c)"}, {"CGive (CGive (CGive (CZero)))", 2, "CZero"}, {"CGive (CIf (true, CGive (c), d))", 4, "CGive (CGive (c))"}, {"CGive (CIf (true, CGive (c), d))", 6, "c"},
		{"CBoth (CBoth (CZero, CZero), CBoth (c, CGive (CZero)))", 2, "c"}, {"CBoth (CZero, CZero)", 5, "CBoth (CZero, CZero)"},
		{"CScale (ODiv (1, 0), CGive (CZero))", 2, "CScale (ODiv (1, 0), CZero)"}, {"CScale (ODiv (1, 0), CGive (CZero))", 3, "CZero"}, {"CScale (ODiv (1, 0), c)", 15, "CScale (0, c)"},
		{"CScale (1, CScale (x, CScale (1, c)))", 2, "CScale (x, c)"}, {"CScale (1, CZero)", 2, "CZero"},
		{"CAt 5 (CAt 3 (CAt 9 (CAt 1 (c))))", 2, "CAt 9 (c)"}, {"CAt 5 (CAt 9 (c))", 13, "CAt 5 (CAt 9 (c))"}, {"CAt 5 (CScale (1, CAt 3 (CGive (CGive (CAt 4 (c))))))", 2, "CAt 5 (c)"}, {"CAt 5 (CAt 9 (CZero))", 2, "CAt 9 (CZero)"},
		{"CWhen 5 (false, CGive (CZero))", 4, "CWhen 5 (false, CZero)"}, {"CWhen 5 (false, CGive (CZero))", 6, "CWhen 5 (false, CZero)"}, {"CWhen 5 (OLt (1, 0), CBoth (c, d))", 4, "CWhen 5 (OLt (1, 0), CBoth (c, d))"}, {"CWhen 5 (OLt (1, 0), CBoth (c, d))", 5, "CWhen 5 (false, CZero)"},
		{"CPick 5 ex (CIf (true, c, d), CIf (false, c, d))", 4, "CPick 5 ex (c, d)"}, {"CPick 5 ex (CBoth (CZero, c), CGive (CGive (c)))", 2, "CPick 5 ex (c, c)"},
		{"CIf (OBefore (ODate 3, OPlus (ODate 3, 1)), CAt 3 (CAt 4 (c)), d)", 7, "CAt 4 (c)"}, {"CIf (b, CIf (b, c, c), CIf (true, d, c))", 7, "CIf (b, CIf (b, c, c), d)"},
	} {
		p := letters()
		becomes(t, p.in(read(test.left)), test.passes, p.in(read(test.right)))
		becomes(t, p.in(read(test.left)), test.passes^8, p.in(read(test.right)))
	}
}
