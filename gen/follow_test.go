package gen_test

import (
	"slices"
	"testing"

	"usance/api"
	"usance/denote"
	"usance/gen"
	"usance/opt"
)

// compiled is a contract's bytecode.
func compiled(t *testing.T, c api.Core, passes int) api.Code {
	t.Helper()
	code, e := gen.Compile(c, passes)
	if e != api.OK || !gen.Right(code) {
		t.Fatalf("%v, %d: %v, %v", c, passes, code, e)
	}
	return code
}

// life is a contract that is run, and its bytecode, beside each other.
type life struct {
	*testing.T
	c      api.Core // behind the passes
	code   api.Code
	terms  []api.Core
	places map[int]int // of the terms for which waits are, as far as they were seen
	waits  map[int]int // the other way round
	lives  []api.Live
	holds  []api.Hold
	paid   int
}

func newLife(t *testing.T, c api.Core, passes int) *life {
	t.Helper()
	d, e := opt.Do(c, passes)
	if e != api.OK {
		t.Fatalf("%v, %d: %v", c, passes, e)
	}
	return &life{T: t, c: d, code: compiled(t, c, passes), terms: flat(d), places: map[int]int{}, waits: map[int]int{}}
}

// agree checks that a machine did what denote says, within the fuel, each wait for a term of its own.
func (l *life) agree(m machine, lives []api.Live, transfers []api.Transfer, e api.Errno, what ...any) {
	l.Helper()
	if e != api.OK || !slices.Equal(m.transfers, transfers) || len(m.holds) != len(lives) || m.steps > gen.Fuel(l.code) {
		l.Fatalf("%v on %d with %v, %v: %v, %v, %v, not %v, %v, %v", l.c, m.on, m.feeds, what, m.holds, m.transfers, m.steps, lives, transfers, e)
	}
	for i, h := range m.holds {
		at := lives[i].At
		place, placed := l.places[h.Wait]
		wait, met := l.waits[at]
		if h.Factor != lives[i].Factor || placed && place != at || met && wait != h.Wait {
			l.Fatalf("%v on %d with %v, %v: %v, not %v; %v", l.c, m.on, m.feeds, what, m.holds, lives, l.places)
		}
		l.places[h.Wait], l.waits[at] = at, h.Wait
		l.looks(l.code.Waits[h.Wait], l.terms[at])
	}
}

// looks checks a wait's day and label.
func (l *life) looks(w api.Wait, c api.Core) {
	l.Helper()
	day, label := 0, ""
	switch c.Op {
	case api.CAt:
		day = int(c.N)
	case api.CWhen, api.CPick:
		day = int(c.N+1) % 73049
	}
	if c.Op == api.CPick {
		label = c.S
	}
	if w.Day != day || w.Label != label {
		l.Fatalf("%v: %v", c, w)
	}
}

func (l *life) begin(on int, f []api.Feed) {
	l.Helper()
	m := machine{code: l.code, on: on, feeds: f}
	m.run(0, api.One)
	lives, transfers, e := denote.Begin(l.c, on, f)
	l.agree(m, lives, transfers, e)
	l.lives, l.holds, l.paid = lives, m.holds, l.paid+len(transfers)
}

func (l *life) step(on int, f []api.Feed, pick api.Choice) {
	l.Helper()
	m := machine{code: l.code, on: on, feeds: f}
	m.step(l.holds, pick)
	lives, transfers, e := denote.Step(l.c, l.lives, on, f, pick)
	l.agree(m, lives, transfers, e, l.lives, pick)
	l.lives, l.holds, l.paid = lives, m.holds, l.paid+len(transfers)
}

// alone runs one wait, whose term was seen, by itself.
func (l *life) alone(wait int, factor int64, on int, f []api.Feed, pick api.Choice) {
	l.Helper()
	m := machine{code: l.code, on: on, feeds: f}
	m.step([]api.Hold{{Wait: wait, Factor: factor}}, pick)
	one := []api.Live{{At: l.places[wait], Factor: factor}}
	lives, transfers, e := denote.Step(l.c, one, on, f, pick)
	l.agree(m, lives, transfers, e, one, pick)
}

// waitsSeen are the waits whose terms were seen, rising.
func (l *life) waitsSeen() []int {
	var out []int
	for wait := range l.places {
		out = append(out, wait)
	}
	slices.Sort(out)
	return out
}

// P17.1: through all events by chance bytecode does, within its fuel, what the contract means behind the passes.
func TestDoesAsMeant(t *testing.T) {
	g := newGrower(171)
	paid, waited, most := 0, 0, 0
	for i := range 20000 {
		l := newLife(t, g.contract(1+i%20, 300), i%16)
		on, f := g.day(), g.feeds()
		l.begin(on, f)
		for range 8 {
			waited += len(l.holds)
			most = max(most, len(l.holds))
			on, f = min(on+g.Intn(6), api.MaxDay), g.more(f)
			l.step(on, f, g.choice())
		}
		paid += l.paid
	}
	if paid < 7000 || waited < 50000 || most < 5 {
		t.Error(paid, waited, most)
	}
}

// P17.1: each wait, by itself, does from its places on what its term does, with any factor, on any day, with any feeds, for any choice.
func TestWaitsAlone(t *testing.T) {
	g := newGrower(172)
	seen, all := 0, 0
	for i := range 6000 {
		c := g.contract(3, 200)
		l := newLife(t, c, i%16)
		for range 4 {
			l.begin(g.day(), g.feeds())
		}
		for range 20 {
			for _, wait := range l.waitsSeen() {
				pick := g.choice()
				if label := l.code.Waits[wait].Label; label != "" {
					pick = []api.Choice{pick, {Label: label, Which: 1}, {Label: label, Which: 2}}[g.Intn(3)]
				}
				l.alone(wait, g.number(), g.day(), g.feeds(), pick)
			}
		}
		seen += len(l.places)
		all += len(l.code.Waits)
		if want := len(waiters(l.c)); len(l.code.Waits) != want {
			t.Fatalf("%v: %v, want %d", l.c, l.code.Waits, want)
		}
	}
	if seen < 9000 || seen*3 < all {
		t.Error(seen, all)
	}
}

// P17.1: the same with great contracts.
func TestGreatContracts(t *testing.T) {
	g := newGrower(173)
	greatest := 0
	for i := range 200 {
		c := g.great()
		l := newLife(t, c, i%16)
		greatest = max(greatest, len(l.code.Ins))
		on, f := int(g.small()), g.feeds()
		l.begin(on, f)
		for range 5 {
			on, f = on+g.Intn(6), g.more(f)
			l.step(on, f, g.choice())
		}
	}
	if greatest < 1500 {
		t.Error(greatest)
	}
}
