package opt_test

import (
	"math/rand"
	"slices"
	"testing"

	"usance/api"
	"usance/causal"
	"usance/denote"
)

// run is a contract that is run: what waits of it, and what an event transferred.
type run struct {
	c         api.Core
	lives     []api.Live
	transfers []api.Transfer
}

func (r *run) begin(t *testing.T, on int, f []api.Feed) {
	t.Helper()
	var e api.Errno
	if r.lives, r.transfers, e = denote.Begin(r.c, on, f); e != api.OK {
		t.Fatalf("%v: %v", r.c, e)
	}
}

func (r *run) step(t *testing.T, on int, f []api.Feed, pick api.Choice) {
	t.Helper()
	var e api.Errno
	if r.lives, r.transfers, e = denote.Step(r.c, r.lives, on, f, pick); e != api.OK {
		t.Fatalf("%v, %v: %v", r.c, r.lives, e)
	}
}

// does: did the last event do the same, and does as much wait, with the same factors?
func (r *run) does(s run) bool {
	return slices.Equal(r.transfers, s.transfers) && slices.EqualFunc(r.lives, s.lives, func(a, b api.Live) bool { return a.Factor == b.Factor })
}

// P16.2: through all events by chance a contract does the same behind all passes.
func TestMeansTheSame(t *testing.T) {
	g := grower{rand.New(rand.NewSource(162))}
	paid, waited, less := 0, 0, 0
	for range 12000 {
		was := run{c: g.contract(200)}
		is := run{c: done(t, was.c, 1+g.Intn(7))}
		if !same(was.c, is.c) {
			less++
		}
		on, f := int(g.any(0, g.small(), g.small(), 73048, g.Int63n(73049))), g.feeds()
		from, first := on, f
		was.begin(t, on, f)
		is.begin(t, on, f)
		for range 8 {
			if !was.does(is) {
				t.Fatalf("%v, made %v, from %d with %v, on %d with %v: %v, %v, then %v, %v", was.c, is.c, from, first, on, f, was.lives, was.transfers, is.lives, is.transfers)
			}
			paid += len(was.transfers)
			waited += len(was.lives)
			on, f = min(on+g.Intn(6), api.MaxDay), g.more(f)
			pick := g.choice()
			was.step(t, on, f, pick)
			is.step(t, on, f, pick)
		}
	}
	if paid < 5000 || waited < 20000 || less < 5000 {
		t.Error(paid, waited, less)
	}
}

// P16.2: each rule's left means what its right does, on all days about its own, whatever feeds have told.
func TestLawsMeanTheSame(t *testing.T) {
	g := grower{rand.New(rand.NewSource(163))}
	for _, l := range laws() {
		tried := 0
		for range 3000 {
			p := put{map[string]api.Core{}, map[string]int64{"n": g.small(), "m": g.small()}}
			for _, letter := range []string{"c", "d"} {
				p.terms[letter] = g.right('c', 3)
			}
			kind := "nbd"[g.Intn(3)]
			p.terms["x"], p.terms["y"] = g.right(kind, 3), g.right(kind, 3)
			left, right := p.in(read(l.left)), p.in(read(l.right))
			if _, is := causal.Type(left); !is {
				continue
			}
			tried++
			was, _ := about(left)
			is, _ := about(right)
			one, two := run{c: was}, run{c: is}
			on, f := int(g.small()), g.feeds()
			one.begin(t, on, f)
			two.begin(t, on, f)
			for range 3 {
				if !one.does(two) {
					t.Fatalf("%v, %v on %d with %v: %v, %v", was, is, on, f, one, two)
				}
				pick := g.choice()
				on, f = on+g.Intn(9), g.more(f)
				one.step(t, on, f, pick)
				two.step(t, on, f, pick)
			}
		}
		if tried < 500 {
			t.Error(l, tried)
		}
	}
}

// furthest is the furthest that a term looks back.
func furthest(c api.Core) int64 {
	far := int64(0)
	for _, part := range flat(c) {
		if part.Op == api.OFeed || part.Op == api.ONow {
			far = max(far, part.N)
		}
	}
	return far
}

func depth(c api.Core) int {
	below := 0
	for _, kid := range c.Kids {
		below = max(below, depth(kid))
	}
	return 1 + below
}

// P16.2, P16.3: what comes of it is right, looks no further, is no greater, and stays as it is; without passes it is what it was.
func TestRightAndLess(t *testing.T) {
	g := grower{rand.New(rand.NewSource(164))}
	for i := range 16000 {
		c, passes := g.contract(400), i%16
		d := done(t, c, passes)
		if e := causal.Check(d); e != api.OK {
			t.Fatalf("%v, %d: %v, %v", c, passes, d, e)
		}
		if causal.Horizon(d) > causal.Horizon(c) || furthest(d) > furthest(c) || causal.Size(d) > causal.Size(c) || depth(d) > depth(c) {
			t.Fatalf("%v, %d: %v", c, passes, d)
		}
		for _, name := range causal.Feeds(d) {
			if !slices.Contains(causal.Feeds(c), name) {
				t.Fatalf("%v, %d: %v", c, passes, d)
			}
		}
		if again := done(t, d, passes); !same(again, d) {
			t.Fatalf("%v, %d: %v, then %v", c, passes, d, again)
		}
		if passes&7 == 0 && !same(d, c) {
			t.Fatalf("%v, %d: %v", c, passes, d)
		}
		if other := done(t, c, passes^8); !same(other, d) {
			t.Fatalf("%v, %d: %v, with share %v", c, passes, d, other)
		}
	}
}
