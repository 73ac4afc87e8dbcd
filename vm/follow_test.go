package vm_test

import (
	"slices"
	"testing"

	"usance/api"
	"usance/denote"
	"usance/elab"
	"usance/gen"
	"usance/opt"
	"usance/syntax"
)

// life is a contract that is run, and its bytecode, beside each other.
type life struct {
	*testing.T
	c      api.Core // behind the passes
	code   api.Code
	places map[int]int // of the terms for which waits are, as far as they were seen
	waits  map[int]int // the other way round
	lives  []api.Live
	holds  []api.Hold
	paid   int
}

func newLife(t *testing.T, c api.Core, passes int) *life {
	t.Helper()
	d, e := opt.Do(c, passes)
	code, f := gen.Compile(c, passes)
	if e != api.OK || f != api.OK {
		t.Fatalf("%v, %d: %v, %v", c, passes, e, f)
	}
	return &life{T: t, c: d, code: code, places: map[int]int{}, waits: map[int]int{}}
}

// agree checks that the bytecode did what denote says, within its fuel, each wait for a term of its own.
func (l *life) agree(got event, lives []api.Live, transfers []api.Transfer, e api.Errno, what ...any) {
	l.Helper()
	if e != api.OK || got.e != api.OK || !slices.Equal(got.transfers, transfers) || len(got.holds) != len(lives) || got.steps > gen.Fuel(l.code) {
		l.Fatalf("%v on %v: %v, not %v, %v, %v", l.c, what, got, lives, transfers, e)
	}
	for i, h := range got.holds {
		at := lives[i].At
		place, placed := l.places[h.Wait]
		wait, met := l.waits[at]
		if h.Factor != lives[i].Factor || placed && place != at || met && wait != h.Wait {
			l.Fatalf("%v on %v: %v, not %v; %v", l.c, what, got.holds, lives, l.places)
		}
		l.places[h.Wait], l.waits[at] = at, h.Wait
	}
	l.lives, l.holds, l.paid = lives, got.holds, l.paid+len(transfers)
}

func (l *life) begin(on int, f []api.Feed) {
	l.Helper()
	lives, transfers, e := denote.Begin(l.c, on, f)
	l.agree(begin(asked{c: l.code, on: on, f: f}), lives, transfers, e, on, f)
}

func (l *life) step(on int, f []api.Feed, pick api.Choice) {
	l.Helper()
	lives, transfers, e := denote.Step(l.c, l.lives, on, f, pick)
	l.agree(step(asked{l.code, l.holds, on, f, pick}), lives, transfers, e, on, f, pick)
}

// P18.4, T3: through all events by chance bytecode does, within its fuel, what the contract means, whatever passes were made.
func TestDoesAsMeant(t *testing.T) {
	g := newGrower(183)
	paid, waited, most := 0, 0, 0
	for i := range 8000 {
		c := g.contract(1+i%20, 300)
		l := newLife(t, c, i%16)
		on, f := g.day(), g.feeds()
		l.begin(on, f)
		for range 8 {
			waited += len(l.holds)
			most = max(most, len(l.holds))
			on, f = min(on+g.Intn(6), api.MaxDay), g.more(f)
			l.step(on, f, g.choice())
		}
		paid += l.paid
	}
	if paid < 3000 || waited < 20000 || most < 5 {
		t.Error(paid, waited, most)
	}
}

// P18.4: the same with great contracts.
func TestGreatContracts(t *testing.T) {
	g := newGrower(184)
	paid, greatest := 0, 0
	for i := range 100 {
		l := newLife(t, g.great(), i%16)
		greatest = max(greatest, len(l.code.Ins))
		on, f := int(g.small()), g.feeds()
		l.begin(on, f)
		for range 5 {
			on, f = on+g.Intn(6), g.more(f)
			l.step(on, f, g.choice())
		}
		paid += l.paid
	}
	if paid < 700 || greatest < 1500 {
		t.Error(paid, greatest)
	}
}

// P18.4: passes change nothing that is paid, and as many waits begin, with the same factors.
func TestPasses(t *testing.T) {
	g := newGrower(185)
	paid := 0
	for i := range 1500 {
		c := g.contract(3+i%20, 200)
		first, f, picks := g.day(), g.feeds(), []api.Choice{g.choice(), g.choice(), none, g.choice()}
		var want []event
		for passes := range 16 {
			code, e := gen.Compile(c, passes)
			if e != api.OK {
				t.Fatal(c, e)
			}
			got := []event{begin(asked{c: code, on: first, f: f})}
			for n, pick := range picks {
				got = append(got, step(asked{code, got[n].holds, min(first+3*n, api.MaxDay), f, pick}))
			}
			if passes == 0 {
				want = got
			}
			for n := range got {
				paid += len(got[n].transfers)
				alike := slices.EqualFunc(got[n].holds, want[n].holds, func(a, b api.Hold) bool { return a.Factor == b.Factor })
				if got[n].e != api.OK || !alike || !slices.Equal(got[n].transfers, want[n].transfers) {
					t.Fatalf("%v, %d, event %d: %v, not %v", c, passes, n, got[n], want[n])
				}
			}
		}
	}
	if paid < 6000 {
		t.Error(paid)
	}
}

// made is the contract that a text says.
func made(t *testing.T, rows string) api.Core {
	t.Helper()
	m, at, e := syntax.Module("module m; " + rows)
	if e != api.OK {
		t.Fatal(rows, at, e)
	}
	c, e := elab.Term([]api.Node{m}, "f", nil)
	if e != api.OK {
		t.Fatal(rows, e)
	}
	return c
}

// T1, P18.4: the first examples of the whole, from their texts on.
func TestWholeExamples(t *testing.T) {
	for passes := range 16 {
		code := func(rows string) api.Code {
			c, e := gen.Compile(made(t, rows), passes)
			if e != api.OK {
				t.Fatal(rows, e)
			}
			return c
		}
		// does checks what comes of an event, and answers what waits then.
		does := func(got event, waits, on int, paid string) []api.Hold {
			t.Helper()
			if got.e != api.OK || len(got.holds) != waits || !slices.Equal(got.transfers, pays(on, paid)) {
				t.Errorf("%d, on %d: %v, not %d, %s", passes, on, got, waits, paid)
			}
			return got.holds
		}
		c := code("let f = at(2026-01-31, scale(100, one(EUR)));")
		due := int(dayOf(2026, 1, 31))
		l := does(begin(asked{c: c, on: due - 9}), 1, 0, "")
		l = does(step(asked{c: c, l: l, on: due - 1}), 1, 0, "")
		does(step(asked{c: c, l: l, on: due}), 0, due, "100000000 EUR")
		does(begin(asked{c: code("let f = both(one(EUR), give(one(USD)));"), on: 3}), 0, 3, "1000000 EUR -1000000 USD")

		c = code(`let f = when(2026-03-31, feed "eur" < 1, one(USD));`)
		last := int(dayOf(2026, 3, 31))
		l = does(begin(asked{c: c, on: last - 9}), 1, 0, "")
		does(step(asked{c: c, l: l, on: last, f: feeds(told("eur", 9, 1000000))}), 1, 0, "")
		does(step(asked{c: c, l: l, on: last, f: feeds(told("eur", 9, 999999))}), 0, last, "1000000 USD")
		does(step(asked{c: c, l: l, on: last + 1, f: feeds(told("eur", 9, 999999))}), 0, 0, "")

		c = code(`let f = pick "ex"(2026-06-30, scale(feed "gas", one(EUR)), zero);`)
		last = int(dayOf(2026, 6, 30))
		gas := feeds(told("gas", int64(last)-1, 4500000))
		l = does(begin(asked{c: c, on: last - 9, f: gas}), 1, 0, "")
		does(step(asked{c, l, last, gas, picks("ex", 1)}), 0, last, "4500000 EUR")
		does(step(asked{c, l, last, gas, picks("ex", 2)}), 0, 0, "")
		does(step(asked{c, l, last, gas, none}), 1, 0, "")
		does(step(asked{c, l, last + 1, gas, picks("ex", 1)}), 0, 0, "")
		waiting := does(step(asked{c, l, last - 5, gas, picks("ex", 1)}), 1, 0, "")
		does(step(asked{c, waiting, last, gas, none}), 0, last, "4500000 EUR")
		does(begin(asked{c: code("let f = scale(0.4 + 0.6, one(EUR));"), on: 3}), 0, 3, "1000000 EUR")
	}
}

// P18.4, T3: contracts that are written as texts, day by day.
func TestTexts(t *testing.T) {
	g := newGrower(186)
	for _, rows := range []string{
		`let late(x) = ago(2, x); let f = scale(late(feed "eur"), one(EUR));`,
		`let two(x) = x * x + x; let f = when(1900-01-12, two(feed "eur") < two(feed "a") or before(now, 1900-01-05), if two(feed "a") = 2 then one(EUR) else give(scale(two(feed "b"), one(EUR))));`,
		`let f = both(give(both(one(EUR), at(1900-01-05, give(one(USD))))), pick "b"(1900-01-09, at(1900-01-11, one(USD)), when(1900-01-14, feed "b" < 0, one(GBP))));`,
	} {
		for passes := range 16 {
			l := newLife(t, made(t, rows), passes)
			for range 10 {
				f := g.feeds()
				l.begin(0, f)
				for on := range 20 {
					f = g.more(f)
					l.step(on, f, g.choice())
				}
			}
		}
	}
}

// soon is a contract with all its days within three weeks.
func soon(c api.Core) api.Core {
	out := c
	out.Kids = nil
	if c.Op == api.CAt || c.Op == api.CWhen || c.Op == api.CPick {
		out.N %= 21
	}
	for _, kid := range c.Kids {
		out.Kids = append(out.Kids, soon(kid))
	}
	return out
}

// P18.4, T5: a contract that is compiled waits no more past its last day, where all feeds are known.
func TestEnds(t *testing.T) {
	g := newGrower(187)
	f := feeds(told("a", 0, 5), told("b", 0, -7), told("eur", 0, 1500000))
	waited := 0
	for i := range 3000 {
		l := newLife(t, soon(g.contract(3+i%20, 200)), i%16)
		l.begin(0, nil)
		waited += len(l.holds)
		l.step(int(g.any(3681, 73048, 3681+g.Int63n(60000))), f, none)
		if len(l.holds) > 0 {
			t.Fatal(l.c, l.holds)
		}
	}
	if waited < 3000 {
		t.Error(waited)
	}
}

// P18.1, P18.2: bytecode that was laid as bytes and read again runs as it did.
func TestThereAndBack(t *testing.T) {
	g := newGrower(188)
	for range 3000 {
		c := g.code()
		b, e := gen.Encode(c)
		d, _, f := gen.Decode(b)
		if e != api.OK || f != api.OK {
			t.Fatal(c, e, f)
		}
		a := asked{c, g.holds(c), g.day(), g.feeds(), g.choice()}
		again := a
		again.c = d
		begins(t, again, begin(a))
		steps(t, again, step(a))
	}
}
