package denote_test

import (
	"fmt"
	"math"
	"math/rand"
	"reflect"
	"strings"
	"testing"

	"usance/api"
	"usance/causal"
	"usance/denote"
)

// asked is all that is handed in to a call.
type asked struct {
	c    api.Core
	l    []api.Live
	on   int
	f    []api.Feed
	pick api.Choice
}

// refuses checks that a call answers ErrDenoteForm and nothing else, or, if it is right, OK.
func refuses(t *testing.T, call string, a asked, right bool) {
	t.Helper()
	var n int64
	var known bool
	var l []api.Live
	var out []api.Transfer
	var e api.Errno
	switch call {
	case "Value":
		n, known, e = denote.Value(a.c, a.on, a.f)
	case "Begin":
		l, out, e = denote.Begin(a.c, a.on, a.f)
	case "Step":
		l, out, e = denote.Step(a.c, a.l, a.on, a.f, a.pick)
	}
	if right != (e == api.OK) || !right && (e != api.ErrDenoteForm || n != 0 || known || len(l) > 0 || len(out) > 0) {
		t.Errorf("%s(%.500s): %v, %v, %v, %v, %v", call, fmt.Sprint(a), n, known, l, out, e)
	}
}

// every checks the three calls with an observable or a contract that is right.
func every(t *testing.T, on int, f []api.Feed, right bool) {
	t.Helper()
	refuses(t, "Value", asked{c: feed("a", 0), on: on, f: f}, right)
	refuses(t, "Value", asked{c: number(1), on: on, f: f}, right)
	for _, c := range []api.Core{one("EUR"), at(5, scale(feed("a", 0), one("EUR")))} {
		refuses(t, "Begin", asked{c: c, on: on, f: f}, right)
		refuses(t, "Step", asked{c: c, on: on, f: f}, right)
	}
}

// P15.1 to P15.3: days.
func TestWrongDays(t *testing.T) {
	for on, right := range map[int]bool{math.MinInt: false, -73048: false, -1: false, 0: true, 1: true, 73048: true, 73049: false, 1 << 32: false, math.MaxInt: false} {
		every(t, on, nil, right)
		every(t, on, feeds(told("a", 3, 2)), right)
	}
}

// P15.1 to P15.3: feeds' names, their order, and how many there are.
func TestWrongFeeds(t *testing.T) {
	for name, right := range map[string]bool{
		"a": true, "eur": true, "if": true, "z_9": true, strings.Repeat("z", 24): true,
		"": false, strings.Repeat("z", 25): false, "A": false, "_a": false, "9": false, "a.b": false, "a b": false, "a\x00": false, "aB": false, "\xff": false, "é": false, strings.Repeat("z", 1<<20): false,
	} {
		every(t, 3, feeds(told(name, 3, 2)), right)
		every(t, 3, feeds(told(name)), right)
	}
	for _, test := range []struct {
		names string
		right bool
	}{
		{"a b c", true}, {"a aa b", true}, {"a1 a_ aa", true}, {"a a", false}, {"b a", false}, {"a b b", false}, {"a c b", false}, {"aa a", false}, {"a_ a1", false}, {"b b b", false}, {"a B", false}, {"A b", false},
	} {
		var f []api.Feed
		for _, name := range strings.Fields(test.names) {
			f = append(f, told(name))
		}
		every(t, 3, f, test.right)
	}
	var many []api.Feed
	for i := range 70 {
		many = append(many, told(fmt.Sprintf("a%02d", i), 3, 2))
	}
	for count, right := range map[int]bool{0: true, 1: true, 63: true, 64: true, 65: false, 70: false} {
		every(t, 3, many[:count], right)
	}
	every(t, 3, make([]api.Feed, 1<<20), false)
}

// P15.1 to P15.3: stamps' days and numbers, and how many there are; also such as nothing asks for.
func TestWrongStamps(t *testing.T) {
	for _, test := range []struct {
		stamps []int64
		right  bool
	}{
		{[]int64{0, 0}, true}, {[]int64{73048, 5}, true}, {[]int64{0, 1, 1, 1, 73048, 1}, true}, {[]int64{5, api.MaxNum}, true}, {[]int64{5, -api.MaxNum}, true},
		{[]int64{-1, 5}, false}, {[]int64{73049, 5}, false}, {[]int64{math.MinInt64, 5}, false}, {[]int64{math.MaxInt64, 5}, false}, {[]int64{5, api.MaxNum + 1}, false}, {[]int64{5, -api.MaxNum - 1}, false}, {[]int64{5, math.MinInt64}, false}, {[]int64{5, math.MaxInt64}, false},
		{[]int64{5, 1, 5, 1}, false}, {[]int64{5, 1, 5, 2}, false}, {[]int64{5, 1, 4, 1}, false}, {[]int64{3, 1, 5, 1, 4, 1}, false}, {[]int64{3, 1, 4, 1, 4, 1}, false}, {[]int64{0, 1, 0, 1}, false}, {[]int64{3, 1, 73049, 1}, false}, {[]int64{3, 1, 9, api.MaxNum + 1}, false}, {[]int64{-1, 1, 3, 1}, false},
	} {
		for _, on := range []int{0, 4, 73048} {
			every(t, on, feeds(told("a", test.stamps...)), test.right)
			every(t, on, feeds(told("a", 3, 2), told("z", test.stamps...)), test.right)
			every(t, on, feeds(told("a", test.stamps...), told("z", 3, 2)), test.right)
		}
	}
	all := api.Feed{Name: "a"}
	for i := range 5000 {
		all.Stamps = append(all.Stamps, api.Stamp{Day: 2 * i, N: int64(i)})
	}
	for count, right := range map[int]bool{0: true, 4095: true, 4096: true, 4097: false, 5000: false} {
		every(t, 9, feeds(api.Feed{Name: "a", Stamps: all.Stamps[:count]}), right)
		every(t, 9, feeds(told("a"), api.Feed{Name: "b", Stamps: all.Stamps[:count]}), right)
	}
	every(t, 9, feeds(api.Feed{Name: "a", Stamps: make([]api.Stamp, 1<<20)}), false)
}

// P15.3: lives' places, their order and factors.
func TestWrongLives(t *testing.T) {
	c := both(both(scale(feed("a", 0), at(5, one("EUR"))), choose(truth(1), when(9, truth(0), zero()), give(one("USD")))), pick(9, "a", zero(), zero()))
	may := map[int]bool{2: true, 4: true, 6: true, 8: true, 13: true} // of 0 to 15
	for place := -3; place < 20; place++ {
		refuses(t, "Step", asked{c: c, l: lives(int64(place), 1), on: 3}, may[place])
		refuses(t, "Step", asked{c: c, l: lives(2, 1, int64(place), 1), on: 3}, may[place] && place > 2)
		refuses(t, "Step", asked{c: c, l: lives(2, 1, 6, 1, int64(place), 1), on: 3}, may[place] && place > 6)
		refuses(t, "Step", asked{c: c, l: lives(int64(place), 1, 13, 1), on: 3}, may[place] && place < 13)
	}
	for _, place := range []int64{math.MinInt64, math.MaxInt64, 1 << 32, 2 + 1<<32, 2000, 16} {
		refuses(t, "Step", asked{c: c, l: lives(place, 1), on: 3}, false)
	}
	for factor, right := range map[int64]bool{0: true, 1: true, -1: true, api.MaxNum: true, -api.MaxNum: true, api.MaxNum + 1: false, -api.MaxNum - 1: false, math.MinInt64: false, math.MaxInt64: false} {
		for _, l := range [][]api.Live{lives(2, factor), lives(2, 1, 13, factor), lives(2, factor, 13, 1)} {
			refuses(t, "Step", asked{c: c, l: l, on: 3}, right)
		}
	}
	refuses(t, "Step", asked{c: zero(), l: lives(0, 1)}, false)
	refuses(t, "Step", asked{c: one("EUR"), l: lives(0, 1)}, false)
	refuses(t, "Step", asked{c: c, l: make([]api.Live, 1<<20)}, false)
}

// P15.3: choices: a name and 1 or 2, or none, whatever waits.
func TestWrongChoices(t *testing.T) {
	c := pick(9, "a", zero(), zero())
	for _, label := range []string{"", "a", "if", "zz_9", strings.Repeat("z", 24), strings.Repeat("z", 25), "A", "_", "0", "a.b", "a ", "\xff"} {
		for _, which := range []int{math.MinInt, -1, 0, 1, 2, 3, 1 + 1<<32, math.MaxInt} {
			name := strings.Trim(label, "abcdefghijklmnopqrstuvwxyz0123456789_") == "" && label != "" && label[0] >= 'a' && len(label) <= 24
			right := name && (which == 1 || which == 2) || label == "" && which == 0
			for _, l := range [][]api.Live{nil, lives(0, 1)} {
				for _, on := range []int{9, 10} {
					refuses(t, "Step", asked{c: c, l: l, on: on, pick: picks(label, which)}, right)
				}
			}
		}
	}
}

// P15.1 to P15.3: terms: Value is of observables, the others of contracts that do not look ahead.
func TestWrongTerms(t *testing.T) {
	for _, ago := range []int64{-3661, -3660, -1, 0, 3660, 3661} {
		right, back := ago >= -3660 && ago <= 3660, ago >= 0 && ago <= 3660
		for _, c := range []api.Core{feed("a", ago), now(ago), of(api.OLt, feed("a", ago), number(1)), of(api.OIf, truth(0), now(ago), day(3))} {
			refuses(t, "Value", asked{c: c}, right)
			refuses(t, "Begin", asked{c: c}, false)
			refuses(t, "Step", asked{c: c}, false)
		}
		for _, c := range []api.Core{scale(feed("a", ago), zero()), at(9, when(3, of(api.OBefore, now(ago), day(3)), zero()))} {
			refuses(t, "Value", asked{c: c}, false)
			refuses(t, "Begin", asked{c: c}, back)
			refuses(t, "Step", asked{c: c}, back)
			refuses(t, "Step", asked{c: c, l: lives(0, 1)}, back)
		}
	}
	wrong := []api.Core{{}, of(-1), of(api.CPick + 1), number(api.MaxNum + 1), truth(2), day(73049), of(api.OAdd, number(1), now(0)), of(api.OAdd, number(1)), feed("A", 0), of(api.OIf, truth(1), zero(), zero()),
		one("eur"), one(""), give(number(1)), of(api.CGive), both(zero(), of(api.CBoth)), at(-1, zero()), at(73049, zero()), pick(3, "", zero(), zero()), when(3, number(1), zero()), term(api.CZero, 1, ""), term(api.CZero, 0, "a"), of(api.CZero, zero())}
	for _, c := range wrong {
		for _, call := range []string{"Value", "Begin", "Step"} {
			refuses(t, call, asked{c: c}, false)
		}
	}
}

// P15.1 to P15.3: terms by chance, of which one thing was changed: as causal says.
func TestSpoiltTerms(t *testing.T) {
	g := grower{rand.New(rand.NewSource(154))}
	seen := map[bool]int{}
	for i := range 10000 {
		c := g.right("nbdc"[i%4], 1+g.Intn(5), g.Intn(4) > 0)
		g.spoil(&c)
		kind, right := causal.Type(c)
		seen[right]++
		f, on := g.feeds(), g.day()
		refuses(t, "Value", asked{c: c, on: on, f: f}, right && kind != api.TContract)
		refuses(t, "Begin", asked{c: c, on: on, f: f}, causal.Check(c) == api.OK)
		refuses(t, "Step", asked{c: c, on: on, f: f, pick: picks("a", 1)}, causal.Check(c) == api.OK)
	}
	if seen[true] < 1000 || seen[false] < 1000 {
		t.Error(seen)
	}
}

// spoil changes one thing of a term, or of one within it.
func (g grower) spoil(c *api.Core) {
	if len(c.Kids) > 0 && g.Intn(3) > 0 {
		g.spoil(&c.Kids[g.Intn(len(c.Kids))])
		return
	}
	switch g.Intn(5) {
	case 0:
		c.Op = g.Intn(api.CPick + 3)
	case 1:
		c.N = g.any(-1, 0, 1, 73049, api.MaxNum+1, math.MinInt64)
	case 2:
		c.S = []string{"", "a", "EUR", "A", "a.b"}[g.Intn(5)]
	case 3:
		c.Kids = append(c.Kids, g.right("nbdc"[g.Intn(4)], 2, true))
	case 4:
		c.Kids = c.Kids[:len(c.Kids)/2]
	}
}

// R3: what is handed in stays as it is, its spare room too; what is answered is the caller's own.
func TestNothingIsShared(t *testing.T) {
	make1 := func() asked {
		a := asked{c: both(at(5, scale(feed("a", 0), one("EUR"))), pick(9, "p", one("USD"), when(20, known(), one("GBP")))), on: 6}
		a.l = append(make([]api.Live, 0, 8), lives(1, 2, 5, 3)...)
		a.f = append(make([]api.Feed, 0, 8), told("a", 3, 2), told("b"))
		a.f[0].Stamps = append(make([]api.Stamp, 0, 8), a.f[0].Stamps...)
		a.c.Kids = append(make([]api.Core, 0, 8), a.c.Kids...)
		return a
	}
	same := func(a asked) bool {
		b := make1()
		return reflect.DeepEqual(a, b) && reflect.DeepEqual(a.l[:8], b.l[:8]) && reflect.DeepEqual(a.f[:8], b.f[:8]) && reflect.DeepEqual(a.f[0].Stamps[:8], b.f[0].Stamps[:8]) && reflect.DeepEqual(a.c.Kids[:8], b.c.Kids[:8])
	}
	a := make1()
	for range 3 {
		l, out, e := denote.Step(a.c, a.l, a.on, a.f, picks("p", 2))
		if e != api.OK || !reflect.DeepEqual(l, lives(7, 3)) || len(out) != 0 {
			t.Fatal(l, out, e)
		}
		_ = append(l[:0], lives(9, 9, 9, 9, 9, 9)...)
		l, out, e = denote.Begin(a.c, 3, a.f)
		if e != api.OK || !reflect.DeepEqual(l, lives(1, 1000000, 5, 1000000)) || len(out) != 0 {
			t.Fatal(l, out, e)
		}
		clear(l[:cap(l)])
		l, out, e = denote.Begin(a.c, 10, a.f)
		if e != api.OK || !reflect.DeepEqual(out, pays(10, of1("EUR", 2))) {
			t.Fatal(l, out, e)
		}
		clear(out[:cap(out)])
		is(t, feed("a", 0), 6, a.f, 2)
		if !same(a) {
			t.Fatal(a)
		}
	}
	empty := api.Core{Op: api.CGive, Kids: []api.Core{{Op: api.COne, S: "EUR", Kids: []api.Core{}}}}
	begins(t, empty, 3, []api.Feed{}, nil, pays(3, of1("EUR", -1000000)))
	steps(t, empty, []api.Live{}, 3, feeds(api.Feed{Name: "a", Stamps: []api.Stamp{}}), none, nil, nil)
}
