package denote_test

import (
	"testing"

	"usance/api"
)

// P15.1: constants are what they are, whatever the day and the feeds.
func TestConstants(t *testing.T) {
	for _, on := range []int{0, 1, 36583, 73048} {
		for _, f := range [][]api.Feed{nil, {}, {told("a", 0, 5)}} {
			for _, n := range []int64{-api.MaxNum, -1, 0, 1, 1000000, api.MaxNum} {
				is(t, number(n), on, f, n)
			}
			is(t, truth(0), on, f, 0)
			is(t, truth(1), on, f, 1)
			is(t, day(0), on, f, 0)
			is(t, day(73048), on, f, 73048)
		}
	}
}

// P15.1: a feed's value from its stamp on, up to the next one; ahead of the first one, and of the first day, it is not known.
func TestFeedDays(t *testing.T) {
	f := feeds(told("a", 5, 10, 8, 20, 9, -30), told("aa"), told("b", 0, 7), told("z", 73048, 9))
	for on, want := range map[int]int64{5: 10, 6: 10, 7: 10, 8: 20, 9: -30, 10: -30, 73048: -30} {
		is(t, feed("a", 0), on, f, want)
		if on+3 <= api.MaxDay {
			is(t, feed("a", 3), on+3, f, want)
		}
		if on >= 4 {
			is(t, feed("a", -4), on-4, f, want)
		}
	}
	for _, on := range []int{0, 1, 4} {
		isNone(t, feed("a", 0), on, f)
		isNone(t, feed("a", 3660), on+3660, f)
	}
	for _, name := range []string{"aa", "ab", "a_", "c", "zz", "y"} {
		isNone(t, feed(name, 0), 73048, f)
	}
	is(t, feed("a", 3660), 3665, f, 10)
	is(t, feed("a", -3660), 73048, f, -30)
	isNone(t, feed("z", 0), 73047, f)
	is(t, feed("z", 0), 73048, f, 9)
	is(t, feed("z", -1), 73047, f, 9)
	is(t, feed("z", -3660), 73048-3660, f, 9)
	isNone(t, feed("z", -3660), 73047-3660, f)
	isNone(t, feed("z", 1), 73048, f)
	is(t, feed("b", 0), 0, f, 7)
	is(t, feed("b", 9), 9, f, 7)
	isNone(t, feed("b", 1), 0, f)
	isNone(t, feed("b", 10), 9, f)
	isNone(t, feed("b", 3660), 3659, f)
	is(t, feed("b", 3660), 3660, f, 7)
	isNone(t, feed("b", 0), 9, nil)
	isNone(t, feed("b", 0), 9, feeds(told("b")))
	is(t, feed("b", 0), 9, feeds(told("b", 3, 0)), 0)
	is(t, feed("if", 0), 9, feeds(told("if", 3, 1), told("let", 3, 2)), 1)
}

// P15.1: the day, so many days earlier, clamped.
func TestNow(t *testing.T) {
	for _, test := range []struct{ on, ago, want int64 }{
		{0, 0, 0}, {9, 0, 9}, {9, 4, 5}, {9, 9, 0}, {9, 10, 0}, {9, 3660, 0}, {0, 1, 0}, {9, -4, 13}, {73048, 0, 73048}, {73048, -1, 73048}, {73048, 3660, 69388}, {73000, -3660, 73048}, {69388, -3660, 73048}, {69387, -3660, 73047},
	} {
		is(t, now(test.ago), int(test.on), nil, test.want)
	}
}

// P15.1: what each Op makes of its kids.
func TestReckoned(t *testing.T) {
	n := func(op int, a, b, want int64) { t.Helper(); is(t, of(op, number(a), number(b)), 7, nil, want) }
	d := func(op int, a, b, want int64) { t.Helper(); is(t, of(op, day(a), day(b)), 7, nil, want) }
	m := func(op int, a, b, want int64) { t.Helper(); is(t, of(op, day(a), number(b)), 7, nil, want) }
	is(t, of(api.ONeg, number(5)), 7, nil, -5)
	is(t, of(api.ONeg, number(-api.MaxNum)), 7, nil, api.MaxNum)
	is(t, of(api.ONot, truth(0)), 7, nil, 1)
	is(t, of(api.ONot, truth(1)), 7, nil, 0)
	n(api.OAdd, 2, 3, 5)
	n(api.OAdd, api.MaxNum, 1, api.MaxNum)
	n(api.OSub, 2, 3, -1)
	n(api.OSub, -api.MaxNum, 1, -api.MaxNum)
	n(api.OMul, 1500000, 3, 4)
	n(api.OMul, 500000, 3, 2)
	n(api.OMul, api.MaxNum, -api.MaxNum, -api.MaxNum)
	n(api.ODiv, 1000000, 3000000, 333333)
	n(api.ODiv, 2000000, 3000000, 666667)
	n(api.ODiv, 5, 0, 0)
	for op, want := range map[int][3]int64{api.OLt: {1, 0, 0}, api.OLe: {1, 1, 0}, api.OEq: {0, 1, 0}} {
		n(op, -1, 0, want[0])
		n(op, 0, 0, want[1])
		n(op, 1, 0, want[2])
		n(op, api.MaxNum-1, api.MaxNum, want[0])
		n(op, api.MaxNum, api.MaxNum, want[1])
		n(op, api.MaxNum, -api.MaxNum, want[2])
	}
	d(api.OBefore, 4, 5, 1)
	d(api.OBefore, 5, 5, 0)
	d(api.OBefore, 6, 5, 0)
	d(api.OBefore, 0, 73048, 1)
	m(api.OPlus, 9, 2000000, 11)
	m(api.OPlus, 9, 2999999, 11)
	m(api.OPlus, 9, -2999999, 7)
	m(api.OPlus, 9, 999999, 9)
	m(api.OPlus, 73040, 100000000, 73048)
	m(api.OPlus, 9, -api.MaxNum, 0)
	m(api.OMonths, 45321, 1000000, 45350) // 2024-01-31, 2024-02-29
	m(api.OMonths, 45321, 1999999, 45350)
	m(api.OMonths, 45321, -999999, 45321)
	m(api.OMonths, 0, -1000000, 0)
	m(api.OMonths, 5, api.MaxNum, 73048)
	d(api.OYears, 0, 365, 1000000)
	d(api.OYears, 10, 0, -27397)
	d(api.OYears30, 45321, 45381, 166667) // 2024-01-31, 2024-03-31
	d(api.OYears30, 45381, 45321, -166667)
	is(t, of(api.OYears, now(10), now(0)), 40, nil, 27397)
}

// P15.1: and, or, if ask what they must, and nothing else.
func TestShortcuts(t *testing.T) {
	unknown := of(api.OLt, feed("no", 0), number(1))
	truths := map[string]api.Core{"0": truth(0), "1": truth(1), "?": unknown}
	for name, first := range truths {
		for with, second := range truths {
			row := name + with
			check(t, of(api.OAnd, first, second), map[string]string{"00": "0", "01": "0", "0?": "0", "10": "0", "11": "1", "1?": "?", "?0": "?", "?1": "?", "??": "?"}[row])
			check(t, of(api.OOr, first, second), map[string]string{"00": "0", "01": "1", "0?": "?", "10": "1", "11": "1", "1?": "1", "?0": "?", "?1": "?", "??": "?"}[row])
			check(t, of(api.OIf, first, second, truth(1)), map[string]string{"00": "1", "01": "1", "0?": "1", "10": "0", "11": "1", "1?": "?", "?0": "?", "?1": "?", "??": "?"}[row])
			check(t, of(api.OIf, first, truth(1), second), map[string]string{"00": "0", "01": "1", "0?": "?", "10": "1", "11": "1", "1?": "1", "?0": "?", "?1": "?", "??": "?"}[row])
		}
	}
	is(t, of(api.OIf, truth(1), number(5), feed("no", 0)), 3, nil, 5)
	is(t, of(api.OIf, truth(0), number(5), number(-6)), 3, nil, -6)
	is(t, of(api.OIf, truth(1), day(5), now(0)), 3, nil, 5)
	is(t, of(api.OIf, truth(0), day(5), now(1)), 3, nil, 2)
}

// check holds a truth against its letter.
func check(t *testing.T, c api.Core, want string) {
	t.Helper()
	switch want {
	case "?":
		isNone(t, c, 3, nil)
	case "0", "1":
		is(t, c, 3, nil, int64(want[0]-'0'))
	default:
		t.Errorf("%v: no row", c)
	}
}

// P15.1: a term of which one kid is not known is not known, even where the other one says enough.
func TestNotKnown(t *testing.T) {
	n := feed("no", 0)
	b := of(api.OEq, n, n)
	d := of(api.OPlus, now(0), n)
	cases := []api.Core{n, b, d, of(api.ONeg, n), of(api.ONot, b), of(api.OMul, number(0), n), of(api.OMul, n, number(0)), of(api.ODiv, n, number(0)), of(api.OIf, b, number(1), number(1)), of(api.OMonths, d, number(0)), of(api.OMonths, now(0), n), of(api.OPlus, d, number(0))}
	for _, op := range []int{api.OAdd, api.OSub, api.OMul, api.ODiv, api.OLt, api.OLe, api.OEq} {
		cases = append(cases, of(op, n, number(1)), of(op, number(1), n), of(op, n, n))
	}
	for _, op := range []int{api.OBefore, api.OYears, api.OYears30} {
		cases = append(cases, of(op, d, day(1)), of(op, day(1), d), of(op, d, d))
	}
	for _, c := range cases {
		isNone(t, c, 9, nil)
		isNone(t, c, 9, feeds(told("a", 0, 1), told("no", 10, 1)))
		for _, on := range []int{10, 73048} {
			if n, known := valueOf(c, on, told("no", 10, 1)); !known {
				t.Errorf("%v on %d: %v", c, on, n)
			}
		}
	}
}
