package opt_test

import (
	"slices"
	"strconv"
	"strings"
	"testing"

	"usance/api"
)

// opWords are the Ops' words, in the order of their numbers from 1 on.
const opWords = "ONum OBool ODate OFeed ONow ONeg OAdd OSub OMul ODiv OLt OLe OEq ONot OAnd OOr OBefore OPlus OMonths OYears OYears30 OIf CZero COne CGive CScale CBoth CIf CAt CWhen CPick"

// reader reads terms as the chapter writes them: an Op's word, its N and S, its kids in brackets. 0, 1 are the ONums that the chapter means by these, true and false OBools; any other word is a letter, a term with the Op 0, which another one is put in for.
type reader struct{ tokens []string }

func read(text string) api.Core {
	for _, sign := range []string{"(", ")", ","} {
		text = strings.ReplaceAll(text, sign, " "+sign+" ")
	}
	r := reader{append(strings.Fields(text), ")")}
	return r.term()
}

func (r *reader) next() string {
	out := r.tokens[0]
	r.tokens = r.tokens[1:]
	return out
}

func (r *reader) stands(signs string) bool { return strings.Contains(signs, r.tokens[0]) }

func (r *reader) term() api.Core {
	word := r.next()
	switch word {
	case "0", "1":
		n, _ := strconv.ParseInt(word, 10, 64)
		return api.Core{Op: api.ONum, N: n * api.One}
	case "true":
		return api.Core{Op: api.OBool, N: 1}
	case "false":
		return api.Core{Op: api.OBool}
	}
	c := api.Core{Op: slices.Index(strings.Fields(opWords), word) + 1}
	if c.Op == 0 {
		c.S = word
	}
	for !r.stands("(),") {
		word = r.next()
		if n, e := strconv.ParseInt(word, 10, 64); e == nil {
			c.N = n
		} else {
			c.S = word
		}
	}
	if r.stands("(") {
		for r.next() != ")" {
			c.Kids = append(c.Kids, r.term())
		}
	}
	return c
}

// put are terms that stand for letters, and numbers that stand for the letters n and m (max: the greater one) as an Op's N.
type put struct {
	terms map[string]api.Core
	nums  map[string]int64
}

// in is a term with what is put in for its letters, each in lists of its own.
func (p put) in(c api.Core) api.Core {
	if c.Op == 0 {
		return copied(p.terms[c.S])
	}
	out := api.Core{Op: c.Op, N: c.N, S: c.S}
	switch c.S {
	case "n", "m":
		out.N, out.S = p.nums[c.S], ""
	case "max":
		out.N, out.S = max(p.nums["n"], p.nums["m"]), ""
	}
	for _, kid := range c.Kids {
		out.Kids = append(out.Kids, p.in(kid))
	}
	return out
}

// fits: can letters be put into a shape, so that it comes to the term? They are.
func (p put) fits(shape, c api.Core) bool {
	if shape.Op == 0 {
		p.terms[shape.S] = c
		return true
	}
	if shape.Op != c.Op || len(shape.Kids) != len(c.Kids) || shape.S == "" && shape.N != c.N {
		return false
	}
	if shape.S != "" {
		p.nums[shape.S] = c.N
	}
	for i, kid := range shape.Kids {
		if !p.fits(kid, c.Kids[i]) {
			return false
		}
	}
	return true
}

func copied(c api.Core) api.Core { return put{}.in(c) }

// same: are terms the same, nil and empty lists, too?
func same(c, d api.Core) bool {
	return c.Op == d.Op && c.N == d.N && c.S == d.S && slices.EqualFunc(c.Kids, d.Kids, same)
}

// flat are all terms of one, by their places.
func flat(c api.Core) []api.Core {
	out := []api.Core{c}
	for _, kid := range c.Kids {
		out = append(out, flat(kid)...)
	}
	return out
}

// The tests' own reader reads what it is to read.
func TestReader(t *testing.T) {
	want := api.Core{Op: api.CPick, N: 9, S: "ex", Kids: []api.Core{{Op: api.CScale, Kids: []api.Core{{Op: api.OFeed, S: "eur", N: 2}, {Op: api.COne, S: "EUR"}}}, {Op: api.CIf, Kids: []api.Core{{Op: api.OBool, N: 1}, {Op: api.CZero}, {S: "c"}}}}}
	if got := read("CPick 9 ex (CScale (OFeed eur 2, COne EUR), CIf (true, CZero, c))"); !same(got, want) {
		t.Error(got)
	}
	want = api.Core{Op: api.OAdd, Kids: []api.Core{{Op: api.ONum, N: -3}, {Op: api.OMul, Kids: []api.Core{{Op: api.ONum, N: 1000000}, {Op: api.ONum}}}}}
	if got := read("OAdd (ONum -3, OMul (1, 0))"); !same(got, want) {
		t.Error(got)
	}
	for i, word := range strings.Fields(opWords) {
		if got := read(word); got.Op != i+1 {
			t.Error(word, got)
		}
	}
	if count := len(strings.Fields(opWords)); count != api.CPick {
		t.Error(count)
	}
}
