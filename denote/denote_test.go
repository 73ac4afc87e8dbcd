package denote_test

import (
	"slices"
	"testing"

	"usance/api"
	"usance/date"
	"usance/denote"
	"usance/elab"
	"usance/syntax"
)

func term(op int, n int64, s string, kids ...api.Core) api.Core {
	return api.Core{Op: op, N: n, S: s, Kids: kids}
}

func of(op int, kids ...api.Core) api.Core               { return term(op, 0, "", kids...) }
func number(n int64) api.Core                            { return term(api.ONum, n, "") }
func truth(n int64) api.Core                             { return term(api.OBool, n, "") }
func day(n int64) api.Core                               { return term(api.ODate, n, "") }
func now(ago int64) api.Core                             { return term(api.ONow, ago, "") }
func feed(name string, ago int64) api.Core               { return term(api.OFeed, ago, name) }
func one(cur string) api.Core                            { return term(api.COne, 0, cur) }
func give(c api.Core) api.Core                           { return of(api.CGive, c) }
func scale(n, c api.Core) api.Core                       { return of(api.CScale, n, c) }
func both(c, d api.Core) api.Core                        { return of(api.CBoth, c, d) }
func choose(b, c, d api.Core) api.Core                   { return of(api.CIf, b, c, d) }
func at(n int64, c api.Core) api.Core                    { return term(api.CAt, n, "", c) }
func when(n int64, b, c api.Core) api.Core               { return term(api.CWhen, n, "", b, c) }
func pick(n int64, label string, c, d api.Core) api.Core { return term(api.CPick, n, label, c, d) }

func zero() api.Core { return of(api.CZero) }

// known is an observable of a truth that is known as soon as the feed b is.
func known() api.Core { return of(api.OLt, number(0), feed("b", 0)) }

// told is a feed: a day, a value, a day, a value ..
func told(name string, stamps ...int64) api.Feed {
	f := api.Feed{Name: name}
	for i := 0; i < len(stamps); i += 2 {
		f.Stamps = append(f.Stamps, api.Stamp{Day: int(stamps[i]), N: stamps[i+1]})
	}
	return f
}

func feeds(l ...api.Feed) []api.Feed { return l }

// lives: a place, a factor, a place, a factor ..
func lives(l ...int64) []api.Live {
	var out []api.Live
	for i := 0; i < len(l); i += 2 {
		out = append(out, api.Live{At: int(l[i]), Factor: l[i+1]})
	}
	return out
}

// pays: what is paid on one day.
func pays(day int, l ...api.Transfer) []api.Transfer {
	for i := range l {
		l[i].Day = day
	}
	return l
}

func of1(cur string, amount int64) api.Transfer { return api.Transfer{Cur: cur, Amount: amount} }

func picks(label string, which int) api.Choice { return api.Choice{Label: label, Which: which} }

var none = api.Choice{}

// begins checks what Begin answers.
func begins(t *testing.T, c api.Core, day int, f []api.Feed, l []api.Live, paid []api.Transfer) {
	t.Helper()
	waits, out, e := denote.Begin(c, day, f)
	if e != api.OK || !slices.Equal(waits, l) || !slices.Equal(out, paid) {
		t.Errorf("begin %v on %d: %v, %v, %v, want %v, %v", c, day, waits, out, e, l, paid)
	}
}

// steps checks what Step answers.
func steps(t *testing.T, c api.Core, from []api.Live, day int, f []api.Feed, p api.Choice, l []api.Live, paid []api.Transfer) {
	t.Helper()
	waits, out, e := denote.Step(c, from, day, f, p)
	if e != api.OK || !slices.Equal(waits, l) || !slices.Equal(out, paid) {
		t.Errorf("step %v of %v on %d: %v, %v, %v, want %v, %v", c, from, day, waits, out, e, l, paid)
	}
}

// is checks what Value answers of what is known.
func is(t *testing.T, c api.Core, day int, f []api.Feed, want int64) {
	t.Helper()
	if n, known, e := denote.Value(c, day, f); n != want || !known || e != api.OK {
		t.Errorf("%v on %d: %v, %v, %v, want %v", c, day, n, known, e, want)
	}
}

// isNone checks what Value answers of what is not known.
func isNone(t *testing.T, c api.Core, day int, f []api.Feed) {
	t.Helper()
	if n, known, e := denote.Value(c, day, f); n != 0 || known || e != api.OK {
		t.Errorf("%v on %d: %v, %v, %v, want nothing known", c, day, n, known, e)
	}
}

// P15.1 to P15.3: the chapter's examples.
func TestExamples(t *testing.T) {
	c := both(at(10, one("EUR")), when(20, of(api.OLt, number(1000000), feed("eur", 0)), scale(feed("eur", 0), one("USD"))))
	eur := feeds(told("eur", 8, 1500000))
	these := lives(1, 1000000, 3, 1000000)
	begins(t, c, 5, nil, these, nil)
	steps(t, c, these, 10, eur, none, nil, pays(10, of1("EUR", 1000000), of1("USD", 1500000)))
	steps(t, c, these, 21, nil, none, nil, pays(21, of1("EUR", 1000000)))
	begins(t, give(one("EUR")), 3, nil, nil, pays(3, of1("EUR", -1000000)))
	ex := pick(9, "ex", one("EUR"), zero())
	begins(t, ex, 3, nil, lives(0, 1000000), nil)
	steps(t, ex, lives(0, 1000000), 4, nil, picks("ex", 1), nil, pays(4, of1("EUR", 1000000)))
	steps(t, ex, lives(0, 1000000), 10, nil, none, nil, nil)
	isNone(t, feed("eur", 2), 9, eur)
	is(t, feed("eur", 1), 9, eur, 1500000)
}

// deal is the contract of a text.
func deal(t *testing.T, rows string) api.Core {
	t.Helper()
	m, place, e := syntax.Module("module m; " + rows)
	if e != api.OK {
		t.Fatalf("%s: %v at %d", rows, e, place)
	}
	c, e := elab.Term([]api.Node{m}, "deal", nil)
	if e != api.OK {
		t.Fatalf("%s: %v", rows, e)
	}
	return c
}

func dayOf(t *testing.T, s string) int {
	t.Helper()
	d, e := date.Parse(s)
	if e != api.OK {
		t.Fatal(s)
	}
	return d
}

// T1: the first five examples of the whole, from their texts on.
func TestWholeExamples(t *testing.T) {
	c := deal(t, "let deal = at(2026-01-31, scale(100, one(EUR)));")
	due := dayOf(t, "2026-01-31")
	begins(t, c, due-1, nil, lives(0, 1000000), nil)
	steps(t, c, lives(0, 1000000), due-1, nil, none, lives(0, 1000000), nil)
	steps(t, c, lives(0, 1000000), due, nil, none, nil, pays(due, of1("EUR", 100000000)))

	c = deal(t, "let deal = both(one(EUR), give(one(USD)));")
	begins(t, c, 0, nil, nil, pays(0, of1("EUR", 1000000), of1("USD", -1000000)))

	c = deal(t, `let deal = when(2026-03-31, feed "eur" < 1, one(USD));`)
	last := dayOf(t, "2026-03-31")
	steps(t, c, lives(0, 1000000), last-9, feeds(told("eur", int64(last)-9, 1000000)), none, lives(0, 1000000), nil)
	steps(t, c, lives(0, 1000000), last, feeds(told("eur", int64(last), 999999)), none, nil, pays(last, of1("USD", 1000000)))
	steps(t, c, lives(0, 1000000), last+1, feeds(told("eur", int64(last), 999999)), none, nil, nil)

	c = deal(t, `let deal = pick "ex"(2026-06-30, scale(feed "gas", one(EUR)), zero);`)
	last = dayOf(t, "2026-06-30")
	gas := feeds(told("gas", int64(last)-9, 3000000, int64(last), 4500000))
	steps(t, c, lives(0, 1000000), last-1, gas, picks("ex", 1), nil, pays(last-1, of1("EUR", 3000000)))
	steps(t, c, lives(0, 1000000), last, gas, picks("ex", 1), nil, pays(last, of1("EUR", 4500000)))
	steps(t, c, lives(0, 1000000), last, gas, picks("ex", 2), nil, nil)
	steps(t, c, lives(0, 1000000), last+1, gas, picks("ex", 1), nil, nil)
	steps(t, c, lives(0, 1000000), last-10, gas, picks("ex", 1), lives(1, 1000000), nil)

	c = deal(t, `let late(x) = ago(2, x); let deal = scale(late(feed "eur"), one(EUR));`)
	begins(t, c, 9, feeds(told("eur", 3, 2000000, 8, 7000000)), nil, pays(9, of1("EUR", 2000000)))
	c = deal(t, `let deal = scale(ago(-1, feed "eur"), one(EUR));`)
	if l, paid, e := denote.Begin(c, 9, feeds(told("eur", 3, 2000000))); e != api.ErrDenoteForm || l != nil || paid != nil {
		t.Error(l, paid, e)
	}
}
