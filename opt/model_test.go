package opt_test

import (
	"math/rand"
	"slices"
	"testing"

	"usance/api"
)

// shape is a law whose texts were read.
type shape struct {
	pass        int
	left, right api.Core
}

func shapes() []shape {
	var out []shape
	for _, l := range laws() {
		out = append(out, shape{l.pass, read(l.left), read(l.right)})
	}
	return out
}

// isConstant: does a term hang on nothing?
func isConstant(c api.Core) bool { return c.Op == api.ONum || c.Op == api.OBool || c.Op == api.ODate }

// steps are all terms that one rule, done once, makes of a term itself. A rule that would change nothing does not fit (CWhen with CZero).
func steps(c api.Core, passes int, all []shape) []api.Core {
	var out []api.Core
	if passes&1 > 0 && slices.Contains(folds(), c.Op) && !slices.ContainsFunc(c.Kids, func(kid api.Core) bool { return !isConstant(kid) }) {
		out = append(out, folded(c))
	}
	for _, s := range all {
		if passes&s.pass == 0 || s.left.Op != c.Op {
			continue
		}
		p := put{map[string]api.Core{}, map[string]int64{}}
		if p.fits(s.left, c) {
			if d := p.in(s.right); !same(c, d) {
				out = append(out, d)
			}
		}
	}
	return out
}

// anywhere does one rule at some place of a term, if there is a place where one fits.
func (g grower) anywhere(c api.Core, passes int, all []shape) (api.Core, bool) {
	places := g.Perm(len(c.Kids) + 1)
	for _, place := range places {
		if place == len(c.Kids) {
			if l := steps(c, passes, all); len(l) > 0 {
				return l[g.Intn(len(l))], true
			}
			continue
		}
		if kid, is := g.anywhere(c.Kids[place], passes, all); is {
			out := copied(c)
			out.Kids[place] = kid
			return out, true
		}
	}
	return c, false
}

// P16.1: contracts by chance, of which rules are done one by one, at any places, in any order, as long as one fits: all ways come to what Do answers.
func TestModel(t *testing.T) {
	g := grower{rand.New(rand.NewSource(161))}
	all := shapes()
	changed, left := map[int]int{}, 0
	for i := range 80000 {
		c, passes := g.contract(120), i%16
		want, some := c, true
		for some {
			want, some = g.anywhere(want, passes, all)
		}
		got := done(t, c, passes)
		if !same(got, want) {
			t.Fatalf("%v, %d: %v, want %v", c, passes, got, want)
		}
		if !same(got, c) {
			changed[passes]++
		}
		if len(flat(got)) > 1 {
			left++
		}
	}
	for passes := range 16 {
		if passes&7 > 0 && changed[passes] < 300 || passes&7 == 0 && changed[passes] > 0 {
			t.Error(passes, changed)
		}
	}
	if left < 30000 {
		t.Error(left)
	}
}
