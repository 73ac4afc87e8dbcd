package causal_test

import (
	"math"
	"strings"
	"testing"

	"usance/api"
	"usance/causal"
)

// rows are the Ops' types of kids and, last, their own: n, b, d, c for a number, a truth, a day, a contract.
var rows = map[int]string{
	api.ONum: "n", api.OBool: "b", api.ODate: "d", api.OFeed: "n", api.ONow: "d", api.ONeg: "nn", api.OAdd: "nnn", api.OSub: "nnn", api.OMul: "nnn", api.ODiv: "nnn", api.OLt: "nnb", api.OLe: "nnb", api.OEq: "nnb",
	api.ONot: "bb", api.OAnd: "bbb", api.OOr: "bbb", api.OBefore: "ddb", api.OPlus: "dnd", api.OMonths: "dnd", api.OYears: "ddn", api.OYears30: "ddn",
	api.CZero: "c", api.COne: "c", api.CGive: "cc", api.CScale: "ncc", api.CBoth: "ccc", api.CIf: "bccc", api.CAt: "cc", api.CWhen: "bcc", api.CPick: "ccc",
}

// rowsOf are all of an Op's.
func rowsOf(op int) []string {
	if op == api.OIf {
		return []string{"bnnn", "bbbb", "bddd"}
	}
	if row, is := rows[op]; is {
		return []string{row}
	}
	return nil
}

// letterOf is a type's letter in rows.
func letterOf(kind int) string {
	return map[int]string{api.TNum: "n", api.TBool: "b", api.TDate: "d", api.TContract: "c"}[kind]
}

// ownS is an S that an Op may have.
func ownS(op int) string {
	switch op {
	case api.OFeed, api.CPick:
		return "a"
	case api.COne:
		return "EUR"
	}
	return ""
}

// samples are terms of a letter's type, one of each shape that is small.
func samples(letter byte) []api.Core {
	switch letter {
	case 'n':
		return []api.Core{number(1), feed("a", 0), of(api.ONeg, number(2)), of(api.OIf, truth(1), number(0), feed("a", 0))}
	case 'b':
		return []api.Core{truth(1), of(api.ONot, truth(0)), of(api.OLt, number(1), number(2)), of(api.OIf, truth(1), truth(0), truth(1))}
	case 'd':
		return []api.Core{day(1), now(0), of(api.OPlus, now(0), number(2)), of(api.OIf, truth(1), day(0), now(0))}
	}
	return []api.Core{zero(), one("EUR"), give(zero()), of(api.CIf, truth(1), zero(), one("EUR"))}
}

// ops are all Ops, and some that are none.
func ops() []int {
	out := []int{math.MinInt, -1, math.MaxInt, 1 << 32, api.CPick + 1, api.CPick + 2, 256 + api.CZero, 1<<32 + api.CZero}
	for op := range api.CPick + 1 {
		out = append(out, op)
	}
	return out
}

// tuples are all texts of so many letters.
func tuples(letters int) []string {
	if letters == 0 {
		return []string{""}
	}
	var out []string
	for _, t := range tuples(letters - 1) {
		for _, l := range strings.Split("nbdc", "") {
			out = append(out, t+l)
		}
	}
	return out
}

// P14.1: each Op with kids of all types, as many as four: right, where a row says so, and of no type elsewhere.
func TestRows(t *testing.T) {
	rights := 0
	for _, op := range ops() {
		for count := range 5 {
			for _, kinds := range tuples(count) {
				want := ""
				for _, row := range rowsOf(op) {
					if row[:len(row)-1] == kinds {
						want = row[len(row)-1:]
						rights++
					}
				}
				for shape := range 4 {
					c := term(op, 0, ownS(op))
					for i := range kinds {
						c.Kids = append(c.Kids, samples(kinds[i])[(shape+i)%4])
					}
					kind, right := causal.Type(c)
					if right != (want != "") || right && letterOf(kind) != want || !right && kind != 0 {
						t.Errorf("%v: %v, %v, want %s", c, kind, right, want)
					}
					if (causal.Check(c) == api.OK) != (want == "c") || causal.Check(c) != api.OK && causal.Check(c) != api.ErrCausalForm || (causal.Size(c) > count) != right || !right && causal.Size(c) != 0 {
						t.Errorf("%v: %v, %v", c, causal.Check(c), causal.Size(c))
					}
				}
			}
		}
	}
	if rights != 33 {
		t.Error(rights)
	}
}

// rangeOf is the least and the greatest N that an Op may have.
func rangeOf(op int) (int64, int64) {
	switch op {
	case api.ONum:
		return -1_000_000_000_000_000, 1_000_000_000_000_000
	case api.OBool:
		return 0, 1
	case api.ODate, api.CAt, api.CWhen, api.CPick:
		return 0, 73048
	case api.OFeed, api.ONow:
		return -3660, 3660
	}
	return 0, 0
}

// filled is a term of an Op, with the kids that its row says.
func filled(op int, n int64, s string) api.Core {
	c := term(op, n, s)
	row := rowsOf(op)[0]
	for i := range len(row) - 1 {
		c.Kids = append(c.Kids, samples(row[i])[0])
	}
	return c
}

// within are right terms, in one of whose places a term of an Op's type stands.
func within(c api.Core) []api.Core {
	row := rowsOf(c.Op)[0]
	switch row[len(row)-1] {
	case 'n':
		return []api.Core{c, of(api.OAdd, number(0), c), of(api.OIf, truth(0), c, number(0)), scale(c, zero())}
	case 'b':
		return []api.Core{c, of(api.OAnd, c, truth(0)), of(api.OIf, c, number(1), number(0)), when(1, c, zero())}
	case 'd':
		return []api.Core{c, of(api.OPlus, c, number(0)), of(api.OIf, truth(0), day(0), c), scale(of(api.OYears, day(0), c), zero())}
	}
	return []api.Core{c, give(c), both(zero(), c), of(api.CIf, truth(0), zero(), c)}
}

// P14.1: each Op with Ns about all edges.
func TestOwnN(t *testing.T) {
	edges := []int64{math.MinInt64, -1_000_000_000_000_001, -1_000_000_000_000_000, -999_999_999_999_999, -1_000_000_000, -73048, -3661, -3660, -3659, -2, -1, 0, 1, 2, 3659, 3660, 3661, 73047, 73048, 73049, 1 << 32, 1 << 33,
		999_999_999_999_999, 1_000_000_000_000_000, 1_000_000_000_000_001, 1 << 62, math.MaxInt64}
	for op := api.ONum; op <= api.CPick; op++ {
		least, most := rangeOf(op)
		for _, n := range edges {
			for _, c := range within(filled(op, n, ownS(op))) {
				if _, right := causal.Type(c); right != (least <= n && n <= most) {
					t.Errorf("%v: %v", c, right)
				}
				if !(least <= n && n <= most) {
					says(t, c, nothing())
				}
			}
		}
	}
}

// P14.1: each Op with texts that are names, currencies, or nothing of these.
func TestOwnS(t *testing.T) {
	names := []string{"a", "z", "eur", "a0", "a9", "a_", "zz_9", "if", "module", "let", "feed", "pick", "true", "now", "zero", strings.Repeat("a", 23), strings.Repeat("z", 24), "a" + strings.Repeat("_", 23), "a" + strings.Repeat("9", 23)}
	currencies := []string{"EUR", "USD", "AAA", "ZZZ", "AZA"}
	others := []string{strings.Repeat("a", 25), strings.Repeat("a", 1000), "A", "AB", "ABCD", "aBC", "ABc", "AB1", "A_C", "_", "_a", "0", "0a", "9a", "aA", "aB", "a.b", "a b", " a", "a ", "a\n", "a-b", "\x00", "a\x00", "ABC\x00", "\x00AB", "`", "{", "a`", "a{", "a/", "a:", "a^", "@BC", "AB[", "AB@", "\xff", "a\xff", "é", "aé", "É", "Éa", "\"a\"", "EU\xff"}
	for op := api.ONum; op <= api.CPick; op++ {
		check := func(texts []string, want bool) {
			t.Helper()
			for _, s := range texts {
				for _, c := range within(filled(op, 0, s)) {
					if _, right := causal.Type(c); right != want {
						t.Errorf("%q: %v: %v", s, c, right)
					}
					if !want {
						says(t, c, nothing())
					}
				}
			}
		}
		check(names, op == api.OFeed || op == api.CPick)
		check(currencies, op == api.COne)
		check(others, false)
		check([]string{""}, op != api.OFeed && op != api.CPick && op != api.COne)
	}
}
