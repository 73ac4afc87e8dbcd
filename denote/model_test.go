package denote_test

import (
	"math/big"
	"math/rand"
	"slices"
	"testing"
	"time"

	"usance/api"
	"usance/denote"
)

// valueOf is Value's, where it answers no error.
func valueOf(c api.Core, on int, f ...api.Feed) (int64, bool) {
	n, known, _ := denote.Value(c, on, f)
	return n, known
}

// plain is the document's world: a day and feeds.
type plain struct {
	day   int
	feeds []api.Feed
}

// feed is the N of the last stamp that is not later than a day.
func (p plain) feed(name string, on int) *int64 {
	var out *int64
	for _, f := range p.feeds {
		for _, s := range f.Stamps {
			if f.Name == name && s.Day <= on {
				out = &s.N
			}
		}
	}
	return out
}

func some(n int64) *int64 { return &n }

func yes(is bool) *int64 {
	if is {
		return some(1)
	}
	return some(0)
}

// millionths is an exact number of millionths, a half to the even one, within the limits.
func millionths(r *big.Rat) int64 {
	double := new(big.Int).Mul(r.Num(), big.NewInt(2))
	double.Add(double, r.Denom())
	out, rest := new(big.Int).DivMod(double, new(big.Int).Mul(r.Denom(), big.NewInt(2)), new(big.Int))
	if rest.Sign() == 0 && out.Bit(0) == 1 {
		out.Sub(out, big.NewInt(1))
	}
	most := big.NewInt(1_000_000_000_000_000)
	if out.CmpAbs(most) > 0 {
		return most.Int64() * int64(out.Sign())
	}
	return out.Int64()
}

func start() time.Time { return time.Date(1900, 1, 1, 0, 0, 0, 0, time.UTC) }

// dayNumber is a date's day, clamped.
func dayNumber(d time.Time) int64 {
	return min(max((d.Unix()-start().Unix())/86400, 0), 73048)
}

// laterBy is the day so many months later.
func laterBy(on, months int64) int64 {
	months = min(max(months, -9999), 9999)
	d := start().AddDate(0, 0, int(on))
	first := time.Date(d.Year(), d.Month()+time.Month(months), 1, 0, 0, 0, 0, time.UTC)
	if first.Year() < 1900 {
		return 0
	}
	if first.Year() > 2099 {
		return 73048
	}
	last := first.AddDate(0, 1, -1).Day()
	return dayNumber(first.AddDate(0, 0, min(d.Day(), last)-1))
}

// thirties counts days by months of thirty.
func thirties(on int64) int64 {
	d := start().AddDate(0, 0, int(on))
	return int64(d.Year()*360 + int(d.Month())*30 + min(d.Day(), 30))
}

// ratio is a / b as millionths of a number.
func ratio(a, b int64) int64 {
	if b == 0 {
		return 0
	}
	return millionths(new(big.Rat).Mul(big.NewRat(a, b), big.NewRat(1000000, 1)))
}

// value is what an observable is; nil: not known.
func (p plain) value(c api.Core) *int64 {
	switch c.Op {
	case api.ONum, api.OBool, api.ODate:
		return some(c.N)
	case api.OFeed:
		return p.feed(c.S, p.day-int(c.N))
	case api.ONow:
		return some(min(max(int64(p.day)-c.N, 0), 73048))
	}
	first := p.value(c.Kids[0])
	if first == nil {
		return nil
	}
	a := *first
	switch {
	case c.Op == api.OIf:
		return p.value(c.Kids[2-a])
	case c.Op == api.OAnd && a == 0, c.Op == api.OOr && a == 1:
		return some(a)
	case c.Op == api.ONeg:
		return some(-a)
	case c.Op == api.ONot:
		return some(1 - a)
	}
	second := p.value(c.Kids[1])
	if second == nil {
		return nil
	}
	return two(c.Op, a, *second)
}

// two is what an Op makes of two kids.
func two(op int, a, b int64) *int64 {
	switch op {
	case api.OAnd, api.OOr:
		return some(b)
	case api.OAdd:
		return some(millionths(big.NewRat(a+b, 1)))
	case api.OSub:
		return some(millionths(big.NewRat(a-b, 1)))
	case api.OMul:
		return some(millionths(new(big.Rat).Mul(big.NewRat(a, 1), big.NewRat(b, 1000000))))
	case api.ODiv:
		return some(ratio(a, b))
	case api.OLt, api.OBefore:
		return yes(a < b)
	case api.OLe:
		return yes(a <= b)
	case api.OEq:
		return yes(a == b)
	case api.OPlus:
		return some(min(max(a+b/1000000, 0), 73048))
	case api.OMonths:
		return some(laterBy(a, b/1000000))
	case api.OYears:
		return some(ratio(b-a, 365))
	case api.OYears30:
		return some(ratio(thirties(b)-thirties(a), 360))
	}
	panic(op)
}

// flat are all terms of a core, by their places.
func flat(c api.Core) []api.Core {
	out := []api.Core{c}
	for _, kid := range c.Kids {
		out = append(out, flat(kid)...)
	}
	return out
}

// does is what comes of acquiring.
type does struct {
	lives     []api.Live
	transfers []api.Transfer
}

func (d does) and(other does) does {
	return does{append(slices.Clone(d.lives), other.lives...), append(slices.Clone(d.transfers), other.transfers...)}
}

// kid is the place of a term's kid.
func kid(c api.Core, place, which int) int {
	place++
	for _, ahead := range c.Kids[:which] {
		place += len(flat(ahead))
	}
	return place
}

// acquire is what a term at a place does.
func (p plain) acquire(c api.Core, place int, f int64) does {
	to := func(which int, f int64) does { return p.acquire(c.Kids[which], kid(c, place, which), f) }
	waits := does{lives: []api.Live{{At: place, Factor: f}}}
	switch c.Op {
	case api.COne:
		if f != 0 {
			return does{transfers: []api.Transfer{{Day: p.day, Cur: c.S, Amount: f}}}
		}
	case api.CGive:
		return to(0, -f)
	case api.CBoth:
		return to(0, f).and(to(1, f))
	case api.CScale:
		if n := p.value(c.Kids[0]); n != nil {
			return to(1, *two(api.OMul, f, *n))
		}
		return waits
	case api.CIf:
		if b := p.value(c.Kids[0]); b != nil {
			return to(int(2-*b), f)
		}
		return waits
	case api.CAt:
		if int64(p.day) >= c.N {
			return to(0, f)
		}
		return waits
	case api.CWhen:
		if b := p.value(c.Kids[0]); int64(p.day) <= c.N && b != nil && *b == 1 {
			return to(1, f)
		} else if int64(p.day) <= c.N {
			return waits
		}
	case api.CPick:
		if int64(p.day) > c.N {
			return to(1, f)
		}
		return waits
	}
	return does{}
}

// step is what lives do.
func (p plain) step(c api.Core, l []api.Live, pick api.Choice) does {
	var out does
	for _, live := range l {
		part, place := flat(c)[live.At], live.At
		if part.Op == api.CPick && part.S == pick.Label && int64(p.day) <= part.N {
			place = kid(part, place, pick.Which-1)
		}
		out = out.and(p.acquire(flat(c)[place], place, live.Factor))
	}
	return out
}

// P15.1: observables by chance, also those that look ahead, held against the plain model.
func TestAnyValues(t *testing.T) {
	g := grower{rand.New(rand.NewSource(15))}
	seen := map[bool]int{}
	for i := range 30000 {
		c := g.right("nbd"[i%3], 1+g.Intn(6), g.Intn(2) == 0)
		p := plain{g.day(), g.feeds()}
		want := p.value(c)
		seen[want != nil]++
		n, known, e := denote.Value(c, p.day, p.feeds)
		if e != api.OK || known != (want != nil) || known && n != *want || !known && n != 0 {
			t.Fatalf("%v on %d, %v: %v, %v, %v", c, p.day, p.feeds, n, known, e)
		}
	}
	if seen[true] < 5000 || seen[false] < 5000 {
		t.Error(seen)
	}
}

// P15.2, P15.3: contracts by chance, begun and stepped through days, tips and picks, held against the plain model.
func TestAnyContracts(t *testing.T) {
	g := grower{rand.New(rand.NewSource(152))}
	paid, waited, picked := 0, 0, 0
	for range 8000 {
		c := g.right('c', 1+g.Intn(9), true)
		if len(flat(c)) > 500 {
			continue
		}
		p := plain{g.day(), g.feeds()}
		want := p.acquire(c, 0, 1000000)
		l, out, e := denote.Begin(c, p.day, p.feeds)
		if e != api.OK || !slices.Equal(l, want.lives) || !slices.Equal(out, want.transfers) {
			t.Fatalf("%v on %d, %v: %v, %v, %v, want %v", c, p.day, p.feeds, l, out, e, want)
		}
		for range 8 {
			paid, waited = paid+len(out), waited+len(l)
			p.day = min(p.day+g.Intn(5), 73048)
			p.feeds = g.more(p.feeds)
			choice := g.choice(c, l)
			want := p.step(c, l, choice)
			if without := p.step(c, l, none); !slices.Equal(want.lives, without.lives) || !slices.Equal(want.transfers, without.transfers) {
				picked++
			}
			before := slices.Clone(l)
			l, out, e = denote.Step(c, l, p.day, p.feeds, choice)
			if e != api.OK || !slices.Equal(l, want.lives) || !slices.Equal(out, want.transfers) {
				t.Fatalf("%v, %v on %d, %v, %v: %v, %v, %v, want %v", c, before, p.day, p.feeds, choice, l, out, e, want)
			}
		}
	}
	if paid < 2000 || waited < 10000 || picked < 500 {
		t.Error(paid, waited, picked)
	}
}

// P15.3: any right lives, also such as stand within one another, held against the plain model.
func TestAnyLives(t *testing.T) {
	g := grower{rand.New(rand.NewSource(153))}
	count := 0
	for range 8000 {
		c := g.right('c', 1+g.Intn(7), true)
		if len(flat(c)) > 300 {
			continue
		}
		l := g.lives(c)
		p := plain{g.day(), g.feeds()}
		choice := g.choice(c, l)
		want := p.step(c, l, choice)
		got, out, e := denote.Step(c, l, p.day, p.feeds, choice)
		if e != api.OK || !slices.Equal(got, want.lives) || !slices.Equal(out, want.transfers) {
			t.Fatalf("%v, %v on %d, %v, %v: %v, %v, %v, want %v", c, l, p.day, p.feeds, choice, got, out, e, want)
		}
		count += len(l)
	}
	if count < 8000 {
		t.Error(count)
	}
}
