package denote_test

import (
	"math/rand"
	"slices"
	"testing"

	"usance/api"
	"usance/causal"
	"usance/denote"
)

// contract is a right one that does not look ahead, of at most so many terms.
func (g grower) contract(most int) api.Core {
	for {
		if c := g.right('c', 1+g.Intn(8), true); len(flat(c)) <= most {
			return c
		}
	}
}

// sure is what comes of a call that answers no error.
func sure(t *testing.T) func([]api.Live, []api.Transfer, api.Errno) does {
	return func(l []api.Live, out []api.Transfer, e api.Errno) does {
		t.Helper()
		if e != api.OK {
			t.Fatal(e)
		}
		return does{l, out}
	}
}

func rising(l []api.Live) bool {
	return slices.IsSortedFunc(l, func(a, b api.Live) int {
		if a.At < b.At {
			return -1
		}
		return 1
	})
}

// P15.4: lives rise, and a step without a choice on the same day changes nothing.
func TestStill(t *testing.T) {
	g := grower{rand.New(rand.NewSource(155))}
	many := 0
	for range 5000 {
		c := g.contract(400)
		on, f := g.day(), g.feeds()
		got := sure(t)(denote.Begin(c, on, f))
		for range 5 {
			if !rising(got.lives) {
				t.Fatalf("%v: %v", c, got.lives)
			}
			if len(got.lives) > 1 {
				many++
			}
			again := sure(t)(denote.Step(c, got.lives, on, f, none))
			if !slices.Equal(again.lives, got.lives) || len(again.transfers) > 0 {
				t.Fatalf("%v on %d, %v: %v, then %v", c, on, f, got, again)
			}
			on, f = min(on+g.Intn(4), api.MaxDay), g.more(f)
			got = sure(t)(denote.Step(c, got.lives, on, f, g.choice(c, got.lives)))
		}
	}
	if many < 500 {
		t.Error(many)
	}
}

// back is the furthest that a feed's term looks back.
func back(c api.Core) int {
	far := 0
	for _, part := range flat(c) {
		if part.Op == api.OFeed {
			far = max(far, int(part.N))
		}
	}
	return far
}

// P15.4: past the horizon, with feeds that are known on all days, nothing waits but what looks back too far.
func TestHorizon(t *testing.T) {
	g := grower{rand.New(rand.NewSource(156))}
	waited, left, ended := 0, 0, 0
	for range 8000 {
		c := g.contract(400)
		from, f := g.day(), g.feeds()
		begun := sure(t)(denote.Begin(c, from, f))
		past := causal.Horizon(c) + 1
		if past > api.MaxDay || past < from || len(begun.lives) == 0 {
			continue
		}
		waited++
		all := feeds(told("a", 0, g.number()), told("b", 0, g.number(), 7, g.number()), told("eur", 0, g.number()))
		end := sure(t)(denote.Step(c, begun.lives, past, all, g.choice(c, begun.lives)))
		parts := flat(c)
		for _, live := range end.lives {
			part := parts[live.At]
			if part.Op != api.CScale && part.Op != api.CIf || back(part.Kids[0]) <= past {
				t.Fatalf("%v: %v waits on %d", c, part, past)
			}
			left++
		}
		if far := max(past, back(c)); len(sure(t)(denote.Step(c, begun.lives, far, all, none)).lives) > 0 {
			t.Fatalf("%v: waits on %d", c, far)
		}
		ended++
	}
	if waited < 1000 || left < 20 || ended < 1000 {
		t.Error(waited, left, ended)
	}
}

// P15.5: stamps of later days make no difference, unless a term looks ahead.
func TestLaterStamps(t *testing.T) {
	g := grower{rand.New(rand.NewSource(157))}
	cut := 0
	for range 8000 {
		c := g.contract(300)
		on, f := g.day(), g.feeds()
		var early []api.Feed
		for _, old := range f {
			kept := slices.DeleteFunc(slices.Clone(old.Stamps), func(s api.Stamp) bool { return s.Day > on })
			cut += len(old.Stamps) - len(kept)
			if len(kept) > 0 || g.Intn(2) == 0 {
				early = append(early, api.Feed{Name: old.Name, Stamps: kept})
			}
		}
		l, choice := g.lives(c), g.choice(c, nil)
		for _, test := range [][2]does{
			{sure(t)(denote.Begin(c, on, f)), sure(t)(denote.Begin(c, on, early))},
			{sure(t)(denote.Step(c, l, on, f, choice)), sure(t)(denote.Step(c, l, on, early, choice))},
		} {
			if !slices.Equal(test[0].lives, test[1].lives) || !slices.Equal(test[0].transfers, test[1].transfers) {
				t.Fatalf("%v on %d, %v: %v, without later ones %v", c, on, f, test[0], test[1])
			}
		}
		o := g.right("nbd"[g.Intn(3)], 4, true)
		n, known := valueOf(o, on, f...)
		if m, also := valueOf(o, on, early...); n != m || known != also {
			t.Fatalf("%v on %d, %v: %v, %v, without later ones %v, %v", o, on, f, n, known, m, also)
		}
	}
	if cut < 3000 {
		t.Error(cut)
	}
}

// moved are lives, so many places on, each with its factor turned or not.
func moved(l []api.Live, places int, sign int64) []api.Live {
	var out []api.Live
	for _, live := range l {
		out = append(out, api.Live{At: live.At + places, Factor: sign * live.Factor})
	}
	return out
}

func turned(l []api.Transfer) []api.Transfer {
	var out []api.Transfer
	for _, tr := range l {
		tr.Amount = -tr.Amount
		out = append(out, tr)
	}
	return out
}

// P15.6: give turns all transfers; both does what the first and then the second does; through all events.
func TestGiveAndBoth(t *testing.T) {
	g := grower{rand.New(rand.NewSource(158))}
	paid := 0
	for range 5000 {
		c, d := g.contract(300), g.contract(300)
		size := len(flat(c))
		on, f := g.day(), g.feeds()
		first, second := sure(t)(denote.Begin(c, on, f)), sure(t)(denote.Begin(d, on, f))
		gave, two := sure(t)(denote.Begin(give(c), on, f)), sure(t)(denote.Begin(both(c, d), on, f))
		for range 5 {
			if !slices.Equal(gave.transfers, turned(first.transfers)) || !slices.Equal(gave.lives, moved(first.lives, 1, -1)) {
				t.Fatalf("%v on %d, %v: %v, given %v", c, on, f, first, gave)
			}
			want := does{moved(first.lives, 1, 1), first.transfers}.and(does{moved(second.lives, 1+size, 1), second.transfers})
			if !slices.Equal(two.transfers, want.transfers) || !slices.Equal(two.lives, want.lives) {
				t.Fatalf("%v, %v on %d, %v: %v, want %v", c, d, on, f, two, want)
			}
			paid += len(two.transfers)
			on, f = min(on+g.Intn(6), api.MaxDay), g.more(f)
			choice := g.choice(c, first.lives)
			gave, two = sure(t)(denote.Step(give(c), gave.lives, on, f, choice)), sure(t)(denote.Step(both(c, d), two.lives, on, f, choice))
			first, second = sure(t)(denote.Step(c, first.lives, on, f, choice)), sure(t)(denote.Step(d, second.lives, on, f, choice))
		}
	}
	if paid < 2000 {
		t.Error(paid)
	}
}
