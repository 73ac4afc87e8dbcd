package opt_test

import (
	"slices"
	"testing"

	"usance/api"
	"usance/causal"
	"usance/date"
	"usance/denote"
)

// P16.1: what constants come to, at the edges of numbers and days.
func TestFold(t *testing.T) {
	for _, test := range []struct{ left, right string }{
		{"ONeg (ONum 5)", "ONum -5"}, {"ONeg (0)", "0"}, {"ONeg (ONum -1000000000000000)", "ONum 1000000000000000"}, {"ONot (true)", "false"}, {"ONot (false)", "true"},
		{"OAdd (ONum 2, ONum -5)", "ONum -3"}, {"OAdd (ONum 1000000000000000, ONum 1)", "ONum 1000000000000000"}, {"OAdd (ONum -1000000000000000, ONum -1)", "ONum -1000000000000000"},
		{"OSub (ONum 2, ONum -5)", "ONum 7"}, {"OSub (ONum -1000000000000000, ONum 1)", "ONum -1000000000000000"}, {"OSub (ONum 5, ONum 5)", "0"},
		{"OMul (ONum 1500000, ONum 3)", "ONum 4"}, {"OMul (ONum 500000, ONum 1)", "0"}, {"OMul (ONum 500000, ONum -3)", "ONum -2"}, {"OMul (ONum 1000000000000000, ONum -2000000)", "ONum -1000000000000000"},
		{"ODiv (ONum 1, ONum 3)", "ONum 333333"}, {"ODiv (ONum -1, ONum 2000000)", "0"}, {"ODiv (1, 0)", "0"}, {"ODiv (ONum 1000000000000000, ONum 1)", "ONum 1000000000000000"}, {"ODiv (ONum -3, ONum 2000000)", "ONum -2"},
		{"OLt (ONum 1, ONum 2)", "true"}, {"OLt (ONum 2, ONum 2)", "false"}, {"OLt (ONum -3, ONum 2)", "true"}, {"OLe (ONum 2, ONum 2)", "true"}, {"OLe (ONum 3, ONum 2)", "false"}, {"OEq (ONum 2, ONum 2)", "true"}, {"OEq (ONum 2, ONum 3)", "false"},
		{"OBefore (ODate 3, ODate 4)", "true"}, {"OBefore (ODate 4, ODate 4)", "false"}, {"OBefore (ODate 5, ODate 4)", "false"},
		{"OPlus (ODate 5, ONum 2999999)", "ODate 7"}, {"OPlus (ODate 5, ONum -2999999)", "ODate 3"}, {"OPlus (ODate 5, ONum -6000000)", "ODate 0"}, {"OPlus (ODate 73048, 1)", "ODate 73048"}, {"OPlus (ODate 0, ONum 1000000000000000)", "ODate 73048"},
		{"OMonths (ODate 30, 1)", "ODate 58"}, {"OMonths (ODate 0, ONum -1000000)", "ODate 0"}, {"OMonths (ODate 73048, 1)", "ODate 73048"}, {"OMonths (ODate 30, ONum 12999999)", "ODate 395"}, {"OMonths (ODate 0, ONum -1000000000000000)", "ODate 0"},
		{"OYears (ODate 0, ODate 365)", "1"}, {"OYears (ODate 365, ODate 0)", "ONum -1000000"}, {"OYears (ODate 0, ODate 1)", "ONum 2740"}, {"OYears30 (ODate 0, ODate 31)", "ONum 83333"}, {"OYears30 (ODate 0, ODate 365)", "1"}, {"OYears30 (ODate 9, ODate 9)", "0"},
	} {
		for _, others := range []int{0, 4, 8, 12} {
			says(t, test.left, others, test.left)
			says(t, test.left, others|1, test.right)
			says(t, test.left, others|3, test.right)
		}
	}
}

// constants are those of each type, at the edges.
func constants() []string {
	return []string{"0", "1", "ONum -1", "ONum 3", "ONum 500000", "ONum -1500000", "ONum 12000000", "ONum 1000000000000000", "ONum -1000000000000000", "true", "false", "ODate 0", "ODate 30", "ODate 58", "ODate 36583", "ODate 73048"}
}

// folded is a constant of what a term's value is that hangs on no day.
func folded(c api.Core) api.Core {
	kind, _ := causal.Type(c)
	n, _, _ := denote.Value(c, 0, nil)
	return api.Core{Op: map[int]int{api.TNum: api.ONum, api.TBool: api.OBool, api.TDate: api.ODate}[kind], N: n}
}

// folds are the Ops that PassFold is for.
func folds() []int {
	return []int{api.ONeg, api.ONot, api.OAdd, api.OSub, api.OMul, api.ODiv, api.OLt, api.OLe, api.OEq, api.OBefore, api.OPlus, api.OMonths, api.OYears, api.OYears30}
}

// P16.1: PassFold does all terms of its Ops with constants, as chapter 15 has them, and no other terms.
func TestFoldAll(t *testing.T) {
	seen := map[int]int{}
	for op := api.ONum; op <= api.OIf; op++ {
		for _, a := range constants() {
			one := api.Core{Op: op, Kids: []api.Core{read(a)}}
			tryFold(t, one, seen)
			for _, b := range constants() {
				tryFold(t, api.Core{Op: op, Kids: []api.Core{read(a), read(b)}}, seen)
				tryFold(t, api.Core{Op: op, Kids: []api.Core{read("true"), read(a), read(b)}}, seen)
			}
		}
	}
	if len(seen) != 17 {
		t.Error(seen)
	}
}

func tryFold(t *testing.T, c api.Core, seen map[int]int) {
	t.Helper()
	if _, is := causal.Type(c); !is {
		return
	}
	seen[c.Op]++
	want := c
	if slices.Contains(folds(), c.Op) {
		want = folded(c)
	}
	becomes(t, c, 1, want)
	becomes(t, c, 9, want)
	becomes(t, c, 8, c)
	becomes(t, c, 0, c)
}

// P16.1: what hangs on a feed or on the day stays, and so does what stands about it.
func TestNoFold(t *testing.T) {
	for _, text := range []string{
		"ONow 0", "ONow 3660", "OFeed eur 0", "ONum 7", "true", "ODate 9", "ONeg (x)", "ONot (b)", "OAdd (x, ONum 2)", "OAdd (ONum 2, x)", "OSub (ONum 2, x)", "OMul (x, 0)", "OMul (0, x)", "ODiv (0, x)", "ODiv (x, 0)", "OLt (x, ONum 1000000000000000)", "OLe (ONum -1000000000000000, x)", "OEq (x, x)",
		"OBefore (s, ODate 0)", "OBefore (ODate 73048, s)", "OPlus (s, ONum 5)", "OPlus (ODate 5, x)", "OMonths (s, ONum 5)", "OMonths (ODate 5, x)", "OYears (s, ODate 5)", "OYears (ODate 5, s)", "OYears30 (s, s)", "OYears30 (ODate 5, s)",
		"OAnd (true, true)", "OAnd (false, true)", "OOr (true, false)", "OOr (false, false)", "OIf (true, ONum 2, ONum 3)", "OIf (false, true, false)", "OIf (true, ODate 2, ODate 3)", "ONeg (OIf (true, ONum 2, ONum 3))", "ONot (OAnd (true, true))",
	} {
		c := letters().in(read(text))
		becomes(t, c, 1, c)
		becomes(t, c, 9, c)
	}
}

// P16.1: by the days of chapter 3.
func TestFoldDays(t *testing.T) {
	for _, on := range []int{0, 30, 59, 36583, 46051, 73048} {
		for n := int64(-40); n < 40; n++ {
			a, b := api.Core{Op: api.ODate, N: int64(on)}, api.Core{Op: api.ONum, N: n * api.One}
			becomes(t, api.Core{Op: api.OPlus, Kids: []api.Core{a, b}}, 1, api.Core{Op: api.ODate, N: int64(date.Plus(on, n))})
			becomes(t, api.Core{Op: api.OMonths, Kids: []api.Core{a, b}}, 1, api.Core{Op: api.ODate, N: int64(date.Months(on, n))})
		}
	}
}
