package denote_test

import (
	"testing"

	"usance/api"
)

// P15.2: what pays at once.
func TestAtOnce(t *testing.T) {
	for _, on := range []int{0, 7, 73048} {
		begins(t, zero(), on, nil, nil, nil)
		begins(t, one("EUR"), on, nil, nil, pays(on, of1("EUR", 1000000)))
		begins(t, give(one("EUR")), on, nil, nil, pays(on, of1("EUR", -1000000)))
		begins(t, give(give(one("EUR"))), on, nil, nil, pays(on, of1("EUR", 1000000)))
		begins(t, both(one("EUR"), one("USD")), on, nil, nil, pays(on, of1("EUR", 1000000), of1("USD", 1000000)))
		begins(t, both(one("EUR"), both(one("EUR"), give(one("EUR")))), on, nil, nil, pays(on, of1("EUR", 1000000), of1("EUR", 1000000), of1("EUR", -1000000)))
		begins(t, give(both(one("EUR"), give(one("USD")))), on, nil, nil, pays(on, of1("EUR", -1000000), of1("USD", 1000000)))
	}
}

// P15.2: a scale is known, or waits; what is nothing is not transferred, but waits.
func TestScale(t *testing.T) {
	for n, want := range map[int64]int64{1: 1, 1000000: 1000000, -2500000: -2500000, api.MaxNum: api.MaxNum, -api.MaxNum: -api.MaxNum} {
		begins(t, scale(number(n), one("EUR")), 3, nil, nil, pays(3, of1("EUR", want)))
		begins(t, give(scale(number(n), one("EUR"))), 3, nil, nil, pays(3, of1("EUR", -want)))
	}
	begins(t, scale(number(0), one("EUR")), 3, nil, nil, nil)
	begins(t, scale(number(0), at(5, one("EUR"))), 3, nil, lives(2, 0), nil)
	begins(t, scale(number(1), scale(number(499999), one("EUR"))), 3, nil, nil, nil)
	begins(t, scale(number(3), scale(number(1500000), one("EUR"))), 3, nil, nil, pays(3, of1("EUR", 4)))
	begins(t, scale(number(api.MaxNum), scale(number(-2000000), one("EUR"))), 3, nil, nil, pays(3, of1("EUR", -api.MaxNum)))
	begins(t, scale(number(2000000), scale(feed("b", 0), one("EUR"))), 3, nil, lives(2, 2000000), nil)
	begins(t, scale(feed("b", 0), give(scale(feed("b", 1), one("EUR")))), 3, feeds(told("b", 3, 5000000)), lives(3, -5000000), nil)
	begins(t, scale(feed("b", 0), give(scale(feed("b", 1), one("EUR")))), 4, feeds(told("b", 3, 5000000)), nil, pays(4, of1("EUR", -25000000)))
	begins(t, scale(of(api.OYears, day(0), now(0)), one("EUR")), 365, nil, nil, pays(365, of1("EUR", 1000000)))
}

// P15.2: an if is known, or waits.
func TestIf(t *testing.T) {
	begins(t, choose(truth(1), one("EUR"), one("USD")), 3, nil, nil, pays(3, of1("EUR", 1000000)))
	begins(t, choose(truth(0), one("EUR"), one("USD")), 3, nil, nil, pays(3, of1("USD", 1000000)))
	c := choose(known(), at(5, one("EUR")), at(6, one("USD")))
	begins(t, c, 3, nil, lives(0, 1000000), nil)
	begins(t, c, 3, feeds(told("b", 2, 9)), lives(4, 1000000), nil)
	begins(t, c, 3, feeds(told("b", 2, 0)), lives(6, 1000000), nil)
	begins(t, c, 5, feeds(told("b", 2, 9)), nil, pays(5, of1("EUR", 1000000)))
	begins(t, choose(of(api.OAnd, truth(0), known()), one("EUR"), give(one("USD"))), 3, nil, nil, pays(3, of1("USD", -1000000)))
}

// P15.2: an at waits ahead of its day alone.
func TestAt(t *testing.T) {
	for _, n := range []int64{0, 1, 9, 73048} {
		c := at(n, one("EUR"))
		for _, on := range []int{0, int(n) - 1, int(n), int(n) + 1, 73048} {
			switch {
			case on < 0 || on > 73048:
			case on < int(n):
				begins(t, c, on, nil, lives(0, 1000000), nil)
				steps(t, c, lives(0, 7), on, nil, none, lives(0, 7), nil)
			default:
				begins(t, c, on, nil, nil, pays(on, of1("EUR", 1000000)))
				steps(t, c, lives(0, 7), on, nil, none, nil, pays(on, of1("EUR", 7)))
			}
		}
	}
	begins(t, at(5, at(9, one("EUR"))), 5, nil, lives(1, 1000000), nil)
	begins(t, at(9, at(5, one("EUR"))), 5, nil, lives(0, 1000000), nil)
	begins(t, at(9, at(5, one("EUR"))), 9, nil, nil, pays(9, of1("EUR", 1000000)))
}

// P15.2: a when waits up to its day, for what is known and true.
func TestWhen(t *testing.T) {
	c := when(9, known(), one("EUR"))
	for _, on := range []int{0, 5, 8, 9} {
		begins(t, c, on, nil, lives(0, 1000000), nil)
		begins(t, c, on, feeds(told("b", 0, 0)), lives(0, 1000000), nil)
		begins(t, c, on, feeds(told("b", 0, 1)), nil, pays(on, of1("EUR", 1000000)))
		begins(t, c, on, feeds(told("b", 10, 1)), lives(0, 1000000), nil)
	}
	for _, on := range []int{10, 11, 73048} {
		for _, f := range [][]api.Feed{nil, {told("b", 0, 0)}, {told("b", 0, 1)}} {
			begins(t, c, on, f, nil, nil)
			steps(t, c, lives(0, 5), on, f, none, nil, nil)
		}
	}
	begins(t, when(73048, truth(0), one("EUR")), 73048, nil, lives(0, 1000000), nil)
	begins(t, when(0, truth(1), one("EUR")), 0, nil, nil, pays(0, of1("EUR", 1000000)))
	begins(t, when(0, truth(1), one("EUR")), 1, nil, nil, nil)
	begins(t, when(9, of(api.OBefore, day(3), now(0)), at(6, one("EUR"))), 4, nil, lives(4, 1000000), nil)
	begins(t, when(9, of(api.OBefore, day(3), now(0)), at(6, one("EUR"))), 3, nil, lives(0, 1000000), nil)
}

// P15.2: a pick waits up to its day, then its second contract is there.
func TestPickDays(t *testing.T) {
	c := pick(9, "ex", one("EUR"), give(one("USD")))
	for _, on := range []int{0, 8, 9} {
		begins(t, c, on, nil, lives(0, 1000000), nil)
		steps(t, c, lives(0, 4), on, nil, none, lives(0, 4), nil)
		steps(t, c, lives(0, 4), on, nil, picks("ex", 1), nil, pays(on, of1("EUR", 4)))
		steps(t, c, lives(0, 4), on, nil, picks("ex", 2), nil, pays(on, of1("USD", -4)))
		steps(t, c, lives(0, 0), on, nil, picks("ex", 2), nil, nil)
	}
	for _, on := range []int{10, 73048} {
		begins(t, c, on, nil, nil, pays(on, of1("USD", -1000000)))
		for _, p := range []api.Choice{none, picks("ex", 1), picks("ex", 2), picks("other", 1)} {
			steps(t, c, lives(0, 4), on, nil, p, nil, pays(on, of1("USD", -4)))
		}
	}
	for _, p := range []api.Choice{picks("e", 1), picks("exx", 2), picks("ey", 1)} {
		steps(t, c, lives(0, 4), 9, nil, p, lives(0, 4), nil)
	}
	begins(t, pick(73048, "ex", one("EUR"), zero()), 73048, nil, lives(0, 1000000), nil)
	begins(t, pick(3, "ex", one("EUR"), pick(9, "ex", zero(), one("USD"))), 4, nil, lives(2, 1000000), nil)
}

// P15.3: a choice is of all picks with its label that waited, and of none that begins to.
func TestPickMany(t *testing.T) {
	c := both(pick(9, "a", one("EUR"), zero()), both(pick(9, "b", one("USD"), zero()), pick(5, "a", one("GBP"), one("CHF"))))
	waits := lives(1, 1, 5, 2, 8, 3)
	steps(t, c, waits, 5, nil, picks("a", 1), lives(5, 2), pays(5, of1("EUR", 1), of1("GBP", 3)))
	steps(t, c, waits, 5, nil, picks("a", 2), lives(5, 2), pays(5, of1("CHF", 3)))
	steps(t, c, waits, 6, nil, picks("a", 1), lives(5, 2), pays(6, of1("EUR", 1), of1("CHF", 3)))
	steps(t, c, waits, 6, nil, picks("b", 1), lives(1, 1), pays(6, of1("USD", 2), of1("CHF", 3)))
	steps(t, c, lives(5, 2), 6, nil, picks("a", 1), lives(5, 2), nil)
	steps(t, c, nil, 6, nil, picks("a", 1), nil, nil)

	nest := pick(9, "a", pick(9, "a", one("EUR"), pick(9, "a", one("USD"), zero())), at(7, pick(9, "a", zero(), one("GBP"))))
	begins(t, nest, 3, nil, lives(0, 1000000), nil)
	steps(t, nest, lives(0, 1000000), 3, nil, picks("a", 1), lives(1, 1000000), nil)
	steps(t, nest, lives(1, 1000000), 3, nil, picks("a", 2), lives(3, 1000000), nil)
	steps(t, nest, lives(3, 1000000), 3, nil, picks("a", 1), nil, pays(3, of1("USD", 1000000)))
	steps(t, nest, lives(0, 1000000), 7, nil, picks("a", 2), lives(7, 1000000), nil)
	steps(t, nest, lives(6, 1000000), 7, nil, picks("a", 2), lives(7, 1000000), nil)
	steps(t, nest, lives(7, 1000000), 7, nil, picks("a", 2), nil, pays(7, of1("GBP", 1000000)))
	steps(t, nest, lives(0, 1000000), 10, nil, picks("a", 1), nil, pays(10, of1("GBP", 1000000)))
}

// P15.2: places count all terms, also those of observables.
func TestPlaces(t *testing.T) {
	wide := of(api.OIf, of(api.OAnd, truth(1), truth(0)), number(1), of(api.OAdd, number(2), feed("b", 0)))
	c := both(scale(wide, one("EUR")), choose(known(), zero(), both(at(9, zero()), when(9, known(), pick(9, "a", zero(), zero())))))
	begins(t, c, 3, nil, lives(1, 1000000, 11, 1000000), nil)
	steps(t, c, lives(1, 5, 11, 6), 3, feeds(told("b", 0, -1)), none, lives(17, 6, 19, 6), nil)
	steps(t, c, lives(1, 5000000, 11, 6), 3, feeds(told("b", 0, -1)), none, lives(17, 6, 19, 6), pays(3, of1("EUR", 5)))
	steps(t, c, lives(17, 6, 19, 7), 8, feeds(told("b", 0, -1, 5, 1)), none, lives(17, 6, 23, 7), nil)
	steps(t, c, lives(17, 6, 23, 7), 9, nil, none, lives(23, 7), nil)
	steps(t, c, lives(23, 7), 10, nil, none, nil, nil)
}

// P15.3: live by live, in order, with each one's own factor, also of lives that stand within others.
func TestLiveByLive(t *testing.T) {
	c := at(5, both(at(10, one("EUR")), at(7, one("USD"))))
	steps(t, c, lives(0, 1, 2, 2, 4, 3), 4, nil, none, lives(0, 1, 2, 2, 4, 3), nil)
	steps(t, c, lives(0, 1, 2, 2, 4, 3), 5, nil, none, lives(2, 1, 4, 1, 2, 2, 4, 3), nil)
	steps(t, c, lives(0, 1, 2, 2, 4, 3), 8, nil, none, lives(2, 1, 2, 2), pays(8, of1("USD", 1), of1("USD", 3)))
	steps(t, c, lives(0, 1, 2, 2, 4, 3), 10, nil, none, nil, pays(10, of1("EUR", 1), of1("USD", 1), of1("EUR", 2), of1("USD", 3)))
	steps(t, c, lives(4, -api.MaxNum), 10, nil, none, nil, pays(10, of1("USD", -api.MaxNum)))
	steps(t, give(c), lives(1, api.MaxNum), 7, nil, none, lives(3, api.MaxNum), pays(7, of1("USD", api.MaxNum)))
	for _, empty := range [][]api.Live{nil, {}, make([]api.Live, 0, 4)} {
		steps(t, c, empty, 20, nil, none, nil, nil)
		steps(t, one("EUR"), empty, 20, nil, picks("a", 2), nil, nil)
	}
}
