package gen_test

import (
	"slices"
	"strconv"
	"strings"
	"testing"

	"usance/api"
)

// opWords are the Ops' words, in the order of their numbers from 1 on.
const opWords = "ONum OBool ODate OFeed ONow ONeg OAdd OSub OMul ODiv OLt OLe OEq ONot OAnd OOr OBefore OPlus OMonths OYears OYears30 OIf CZero COne CGive CScale CBoth CIf CAt CWhen CPick"

// reader reads terms as the chapters write them: an Op's word, its N and S, its kids in brackets; a number is an ONum, true and false are OBools. Any other word is a letter, which another term is put in for.
type reader struct {
	tokens  []string
	letters map[string]api.Core
}

func read(text string) api.Core { return readWith(text, nil) }

func readWith(text string, letters map[string]api.Core) api.Core {
	for _, sign := range []string{"(", ")", ","} {
		text = strings.ReplaceAll(text, sign, " "+sign+" ")
	}
	r := reader{append(strings.Fields(text), ")"), letters}
	return r.term()
}

func (r *reader) next() string {
	out := r.tokens[0]
	r.tokens = r.tokens[1:]
	return out
}

func (r *reader) stands(signs string) bool { return strings.Contains(signs, r.tokens[0]) }

func (r *reader) term() api.Core {
	word := r.next()
	if n, e := strconv.ParseInt(word, 10, 64); e == nil {
		return api.Core{Op: api.ONum, N: n}
	}
	if c, is := r.letters[word]; is {
		return copied(c)
	}
	switch word {
	case "true":
		return api.Core{Op: api.OBool, N: 1}
	case "false":
		return api.Core{Op: api.OBool}
	}
	c := api.Core{Op: slices.Index(strings.Fields(opWords), word) + 1}
	for !r.stands("(),") {
		word = r.next()
		if n, e := strconv.ParseInt(word, 10, 64); e == nil {
			c.N = n
		} else {
			c.S = word
		}
	}
	if r.stands("(") {
		for r.next() != ")" {
			c.Kids = append(c.Kids, r.term())
		}
	}
	return c
}

// copied is a term in lists of its own.
func copied(c api.Core) api.Core {
	out := api.Core{Op: c.Op, N: c.N, S: c.S}
	for _, kid := range c.Kids {
		out.Kids = append(out.Kids, copied(kid))
	}
	return out
}

// same: are terms the same, nil and empty lists, too?
func same(c, d api.Core) bool {
	return c.Op == d.Op && c.N == d.N && c.S == d.S && slices.EqualFunc(c.Kids, d.Kids, same)
}

// flat are all terms of one, by their places.
func flat(c api.Core) []api.Core {
	var out []api.Core
	var walk func(api.Core)
	walk = func(c api.Core) {
		out = append(out, c)
		for _, kid := range c.Kids {
			walk(kid)
		}
	}
	walk(c)
	return out
}

func depth(c api.Core) int {
	below := 0
	for _, kid := range c.Kids {
		below = max(below, depth(kid))
	}
	return 1 + below
}

// nest is a term with so many of a shape about it, in which x stands for what is within.
func nest(times int, about, bottom string) api.Core {
	c := read(bottom)
	for range times {
		c = readWith(about, map[string]api.Core{"x": c})
	}
	return c
}

// The tests' own reader reads what it is to read.
func TestReader(t *testing.T) {
	want := api.Core{Op: api.CPick, N: 9, S: "ex", Kids: []api.Core{{Op: api.CScale, Kids: []api.Core{{Op: api.OFeed, S: "eur", N: 2}, {Op: api.COne, S: "EUR"}}}, {Op: api.CIf, Kids: []api.Core{{Op: api.OBool, N: 1}, {Op: api.CZero}, {Op: api.CAt, N: 5, Kids: []api.Core{{Op: api.CZero}}}}}}}
	if got := readWith("CPick 9 ex (CScale (OFeed eur 2, COne EUR), CIf (true, x, CAt 5 (x)))", map[string]api.Core{"x": {Op: api.CZero}}); !same(got, want) {
		t.Error(got)
	}
	want = api.Core{Op: api.OAdd, Kids: []api.Core{{Op: api.ONum, N: -3}, {Op: api.OMul, Kids: []api.Core{{Op: api.ONum, N: 1}, {Op: api.ONum}}}}}
	if got := read("OAdd (-3, OMul (ONum 1, 0))"); !same(got, want) {
		t.Error(got)
	}
	for i, word := range strings.Fields(opWords) {
		if got := read(word); got.Op != i+1 {
			t.Error(word, got)
		}
	}
	if count := len(strings.Fields(opWords)); count != api.CPick {
		t.Error(count)
	}
}
