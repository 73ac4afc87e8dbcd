package causal_test

import (
	"fmt"
	"reflect"
	"slices"
	"testing"

	"usance/api"
	"usance/causal"
)

func term(op int, n int64, s string, kids ...api.Core) api.Core {
	return api.Core{Op: op, N: n, S: s, Kids: kids}
}

func of(op int, kids ...api.Core) api.Core               { return term(op, 0, "", kids...) }
func number(n int64) api.Core                            { return term(api.ONum, n, "") }
func truth(n int64) api.Core                             { return term(api.OBool, n, "") }
func day(n int64) api.Core                               { return term(api.ODate, n, "") }
func now(ago int64) api.Core                             { return term(api.ONow, ago, "") }
func feed(name string, ago int64) api.Core               { return term(api.OFeed, ago, name) }
func one(cur string) api.Core                            { return term(api.COne, 0, cur) }
func give(c api.Core) api.Core                           { return of(api.CGive, c) }
func scale(n, c api.Core) api.Core                       { return of(api.CScale, n, c) }
func both(c, d api.Core) api.Core                        { return of(api.CBoth, c, d) }
func at(n int64, c api.Core) api.Core                    { return term(api.CAt, n, "", c) }
func when(n int64, b, c api.Core) api.Core               { return term(api.CWhen, n, "", b, c) }
func pick(n int64, label string, c, d api.Core) api.Core { return term(api.CPick, n, label, c, d) }

func zero() api.Core { return of(api.CZero) }

// said is all that the layer says of a term.
type said struct {
	kind    int
	right   bool
	check   api.Errno
	horizon int
	feeds   string
	size    int
}

func ask(c api.Core) said {
	kind, right := causal.Type(c)
	return said{kind, right, causal.Check(c), causal.Horizon(c), fmt.Sprint(causal.Feeds(c)), causal.Size(c)}
}

// nothing is what is said of no right core term.
func nothing() said { return said{check: api.ErrCausalForm, feeds: "[]"} }

func says(t *testing.T, c api.Core, want said) {
	t.Helper()
	if got := ask(c); got != want {
		t.Errorf("%.300s: %v, want %v", fmt.Sprint(c), got, want)
	}
}

// P14.1, P14.2: the chapter's examples, and that of the whole that is this layer's.
func TestExamples(t *testing.T) {
	says(t, at(5, scale(feed("eur", 0), one("EUR"))), said{api.TContract, true, api.OK, 5, "[eur]", 4})
	says(t, of(api.OAdd, number(1), now(0)), nothing())
	says(t, number(api.MaxNum+1), nothing())
	says(t, give(number(1)), nothing())
	says(t, scale(feed("eur", -1), zero()), said{api.TContract, true, api.ErrCausalAhead, 0, "[eur]", 3})
	says(t, of(api.OBefore, now(2), day(7)), said{api.TBool, true, api.ErrCausalForm, 0, "[]", 3})
	says(t, scale(feed("eur", 2), zero()), said{api.TContract, true, api.OK, 0, "[eur]", 3})
	says(t, api.Core{}, nothing())
}

// P14.1: what looks ahead is told wherever it stands, but of contracts alone.
func TestAhead(t *testing.T) {
	for ago, want := range map[int64]api.Errno{-3661: api.ErrCausalForm, -3660: api.ErrCausalAhead, -1: api.ErrCausalAhead, 0: api.OK, 1: api.OK, 3660: api.OK, 3661: api.ErrCausalForm} {
		for _, looks := range []api.Core{feed("a", ago), of(api.OYears, now(ago), day(0)), of(api.OIf, truth(1), number(0), of(api.ONeg, feed("a", ago)))} {
			for _, c := range []api.Core{
				scale(looks, zero()), scale(number(0), scale(looks, zero())), both(zero(), scale(looks, zero())), both(scale(looks, zero()), zero()),
				scale(of(api.OAdd, looks, feed("a", 3)), scale(feed("b", 0), zero())), scale(feed("b", 0), scale(of(api.OAdd, now1(), looks), zero())),
				at(3, scale(looks, zero())), when(3, of(api.OLt, looks, number(0)), zero()), when(3, truth(0), scale(looks, zero())),
				pick(3, "p", scale(looks, zero()), zero()), pick(3, "p", zero(), scale(looks, zero())),
				of(api.CIf, truth(1), zero(), give(scale(looks, zero()))), of(api.CIf, of(api.OEq, looks, looks), zero(), zero()),
			} {
				if e := causal.Check(c); e != want {
					t.Errorf("%v: %v, want %v", c, e, want)
				}
				if kind, right := causal.Type(c); right != (want != api.ErrCausalForm) || right && kind != api.TContract {
					t.Errorf("%v: %v, %v", c, kind, right)
				}
			}
			if e := causal.Check(looks); e != api.ErrCausalForm {
				t.Errorf("%v: %v", looks, e)
			}
		}
	}
	if e := causal.Check(both(scale(feed("a", -1), zero()), give(number(1)))); e != api.ErrCausalForm {
		t.Errorf("no right one that looks ahead: %v", e)
	}
	for _, c := range []api.Core{scale(number(-1), zero()), scale(number(-api.MaxNum), one("EUR"))} {
		if e := causal.Check(c); e != api.OK {
			t.Errorf("a number below 0: %v", e)
		}
	}
}

// now1 is a number that hangs on the day.
func now1() api.Core { return of(api.OYears30, now(1), now(0)) }

// P14.2: the greatest day of those that wait, and of nothing else.
func TestHorizon(t *testing.T) {
	for _, test := range []struct {
		c    api.Core
		want int
	}{
		{zero(), 0}, {at(0, zero()), 0}, {at(73048, zero()), 73048}, {when(73048, truth(1), zero()), 73048}, {pick(73048, "p", zero(), zero()), 73048},
		{at(5, at(9, zero())), 9}, {at(9, at(5, zero())), 9}, {both(at(7, zero()), at(3, zero())), 7}, {both(at(3, zero()), at(7, zero())), 7},
		{at(1, when(2, truth(0), pick(3, "p", zero(), zero()))), 3}, {pick(3, "p", when(2, truth(0), at(1, zero())), zero()), 3}, {when(4, truth(1), pick(3, "p", zero(), at(2, zero()))), 4},
		{pick(1, "p", zero(), at(8, zero())), 8}, {of(api.CIf, truth(1), zero(), give(at(6, zero()))), 6}, {scale(number(900), at(2, zero())), 2},
		{scale(of(api.OYears, day(800), now(700)), at(2, zero())), 2}, {scale(feed("a", 600), zero()), 0}, {scale(feed("a", -600), at(2, zero())), 2},
		{day(800), 0}, {number(800), 0}, {truth(1), 0}, {now(800), 0}, {feed("a", 800), 0}, {of(api.OPlus, day(9), number(9)), 0},
	} {
		if got := causal.Horizon(test.c); got != test.want {
			t.Errorf("%v: %d, want %d", test.c, got, test.want)
		}
	}
	for _, c := range []api.Core{at(5, number(1)), at(5, give(number(1))), at(73049, zero()), at(-1, zero()), at(5, at(73049, zero())), both(at(5, zero()), one("EU")), scale(number(1), at(5, of(api.CBoth)))} {
		says(t, c, nothing())
	}
}

// P14.2: each feed once, by rising names; labels and currencies are none.
func TestFeeds(t *testing.T) {
	for _, test := range []struct {
		c    api.Core
		want []string
	}{
		{zero(), nil}, {now(3), nil}, {feed("a", 0), []string{"a"}}, {feed("if", 3660), []string{"if"}}, {pick(1, "p", one("EUR"), zero()), nil},
		{of(api.OAdd, feed("b", 0), feed("a", 0)), []string{"a", "b"}}, {of(api.OAdd, feed("a", 0), feed("b", 0)), []string{"a", "b"}},
		{of(api.OAdd, feed("a", 0), feed("a", 3)), []string{"a"}}, {of(api.OAdd, feed("a", 0), feed("a", -3)), []string{"a"}},
		{scale(of(api.OMul, feed("a", 0), feed("b", 0)), scale(feed("a", 0), zero())), []string{"a", "b"}},
		{scale(of(api.OMul, feed("ab", 0), of(api.OMul, feed("b", 0), feed("a_", 0))), scale(of(api.OSub, feed("a1", 0), feed("a", 0)), zero())), []string{"a", "a1", "a_", "ab", "b"}},
		{of(api.CIf, of(api.OLt, feed("z", 0), number(1)), scale(feed("y", 0), zero()), when(3, of(api.OEq, feed("x", 0), feed("z", 1)), pick(3, "w", zero(), scale(feed("v", 0), zero())))), []string{"v", "x", "y", "z"}},
		{of(api.OIf, of(api.OLe, feed("c", 0), number(1)), feed("b", 0), feed("a", 0)), []string{"a", "b", "c"}},
	} {
		if got := causal.Feeds(test.c); !slices.Equal(got, test.want) {
			t.Errorf("%v: %v, want %v", test.c, got, test.want)
		}
	}
	for _, c := range []api.Core{feed("A", 0), feed("", 0), feed("a", 3661), of(api.OAdd, feed("a", 0)), scale(feed("a", 0), feed("b", 0)), scale(feed("a", 0), one("eur"))} {
		says(t, c, nothing())
	}
}

// P14.2: what is answered is the caller's own.
func TestFeedsAreNew(t *testing.T) {
	c := scale(of(api.OAdd, feed("b", 0), of(api.OAdd, feed("a", 0), feed("b", 1))), zero())
	first := causal.Feeds(c)
	for i := range first {
		first[i] = "x"
	}
	_ = append(first, "x", "x", "x")
	if got := causal.Feeds(c); !slices.Equal(got, []string{"a", "b"}) {
		t.Error(got)
	}
}

// R3: lists that are handed in stay as they are, their spare room too, and nil and empty ones are one.
func TestNothingIsWritten(t *testing.T) {
	grown := func() api.Core {
		kids := append(make([]api.Core, 0, 8), feed("b", 0), feed("a", 0))
		return api.Core{Op: api.CScale, Kids: append(make([]api.Core, 0, 8), api.Core{Op: api.OAdd, Kids: kids}, one("EUR"))}
	}
	c := grown()
	ask(c)
	if !reflect.DeepEqual(c.Kids[:8], grown().Kids[:8]) || !reflect.DeepEqual(c.Kids[0].Kids[:8], grown().Kids[0].Kids[:8]) {
		t.Error(c)
	}
	for _, empty := range []api.Core{{Op: api.CZero}, {Op: api.CZero, Kids: []api.Core{}}, {Op: api.CZero, Kids: make([]api.Core, 0, 3)}} {
		says(t, empty, said{api.TContract, true, api.OK, 0, "[]", 1})
	}
}
