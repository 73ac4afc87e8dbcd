package vm_test

import (
	"fmt"
	"math"
	"reflect"
	"slices"
	"strings"
	"testing"

	"usance/api"
	"usance/gen"
)

// judges checks that a call answers ErrVmForm and nothing else, or, if it is right, OK.
func judges(t *testing.T, what string, a asked, got event, right bool) {
	t.Helper()
	if right != (got.e == api.OK) || !right && !got.is(refused) {
		t.Errorf("%s(%.500s): %.500v", what, fmt.Sprint(a), got)
	}
}

// both checks both calls.
func both(t *testing.T, a asked, right bool) {
	t.Helper()
	judges(t, "Begin", a, begin(a), right)
	judges(t, "Step", a, step(a), right)
}

// every checks both calls with some bytecodes that are right.
func every(t *testing.T, on int, f []api.Feed, right bool) {
	t.Helper()
	for _, text := range []string{"", "IPay EUR", "IFeed 0 a 0 1; IWait 0; INow 0 9"} {
		c := read(text, api.Wait{})
		for _, l := range [][]api.Hold{nil, holds(0, 1)} {
			both(t, asked{c: c, l: l, on: on, f: f}, right)
		}
	}
}

// P18.1, P18.2: days.
func TestWrongDays(t *testing.T) {
	for on, right := range map[int]bool{math.MinInt: false, -73048: false, -1: false, 0: true, 1: true, 73048: true, 73049: false, 1 << 32: false, math.MaxInt: false} {
		every(t, on, nil, right)
		every(t, on, feeds(told("a", 3, 2)), right)
	}
}

// P18.1, P18.2: feeds' names, their order, and how many there are.
func TestWrongFeeds(t *testing.T) {
	for name, right := range map[string]bool{
		"a": true, "eur": true, "if": true, "z_9": true, strings.Repeat("z", 24): true,
		"": false, strings.Repeat("z", 25): false, "A": false, "_a": false, "9": false, "a.b": false, "a b": false, "a\x00": false, "aB": false, "\xff": false, "é": false, "EUR": false, strings.Repeat("z", 1<<20): false,
	} {
		every(t, 3, feeds(told(name, 3, 2)), right)
		every(t, 3, feeds(told(name)), right)
		every(t, 3, feeds(told("a"), told("zz"), told(name)), right && len(name) == 24)
	}
	for names, right := range map[string]bool{
		"a b c": true, "a aa b": true, "a1 a_ aa": true, "a a": false, "b a": false, "a b b": false, "a c b": false, "aa a": false, "a_ a1": false, "b b b": false, "a B": false, "A b": false,
	} {
		var f []api.Feed
		for _, name := range strings.Fields(names) {
			f = append(f, told(name))
		}
		every(t, 3, f, right)
	}
	var many []api.Feed
	for i := range 70 {
		many = append(many, told(fmt.Sprintf("a%02d", i), 3, 2))
	}
	for count, right := range map[int]bool{0: true, 1: true, 63: true, 64: true, 65: false, 70: false} {
		every(t, 3, many[:count], right)
	}
	every(t, 3, make([]api.Feed, 1<<20), false)
}

// P18.1, P18.2: stamps' days and numbers, and how many there are; also such as nothing asks for.
func TestWrongStamps(t *testing.T) {
	for _, test := range []struct {
		stamps []int64
		right  bool
	}{
		{[]int64{0, 0}, true}, {[]int64{73048, 5}, true}, {[]int64{0, 1, 1, 1, 73048, 1}, true}, {[]int64{5, api.MaxNum}, true}, {[]int64{5, -api.MaxNum}, true},
		{[]int64{-1, 5}, false}, {[]int64{73049, 5}, false}, {[]int64{math.MinInt64, 5}, false}, {[]int64{math.MaxInt64, 5}, false}, {[]int64{5, api.MaxNum + 1}, false}, {[]int64{5, -api.MaxNum - 1}, false}, {[]int64{5, math.MinInt64}, false}, {[]int64{5, math.MaxInt64}, false},
		{[]int64{5, 1, 5, 1}, false}, {[]int64{5, 1, 5, 2}, false}, {[]int64{5, 1, 4, 1}, false}, {[]int64{3, 1, 5, 1, 4, 1}, false}, {[]int64{3, 1, 4, 1, 4, 1}, false}, {[]int64{0, 1, 0, 1}, false}, {[]int64{3, 1, 73049, 1}, false}, {[]int64{3, 1, 9, api.MaxNum + 1}, false}, {[]int64{-1, 1, 3, 1}, false},
	} {
		for _, on := range []int{0, 4, 73048} {
			every(t, on, feeds(told("a", test.stamps...)), test.right)
			every(t, on, feeds(told("a", 3, 2), told("z", test.stamps...)), test.right)
			every(t, on, feeds(told("a", test.stamps...), told("z", 3, 2)), test.right)
		}
	}
	all := api.Feed{Name: "a"}
	for i := range 5000 {
		all.Stamps = append(all.Stamps, api.Stamp{Day: 2 * i, N: int64(i)})
	}
	for count, right := range map[int]bool{0: true, 4095: true, 4096: true, 4097: false, 5000: false} {
		every(t, 9, feeds(api.Feed{Name: "a", Stamps: all.Stamps[:count]}), right)
		every(t, 9, feeds(told("a"), api.Feed{Name: "b", Stamps: all.Stamps[:count]}), right)
	}
	every(t, 9, feeds(api.Feed{Name: "a", Stamps: make([]api.Stamp, 1<<20)}), false)
}

// P18.2: holds' waits and factors, in any order, and how many there are.
func TestWrongHolds(t *testing.T) {
	c := read("IPay EUR", api.Wait{}, api.Wait{Entry: 1}, api.Wait{Day: 9, Label: "ex", First: 1})
	for wait, right := range map[int64]bool{math.MinInt64: false, -1 << 32: false, -1: false, 0: true, 1: true, 2: true, 3: false, 4: false, 250: false, 1 << 32: false, 1<<32 + 1: false, math.MaxInt64: false} {
		for _, l := range [][]api.Hold{holds(wait, 5), holds(0, 1, wait, 5), holds(wait, 5, 0, 1), holds(2, 1, wait, 5, 2, 1)} {
			judges(t, "Step", asked{c: c, l: l}, step(asked{c: c, l: l}), right)
			bare := read("IPay EUR")
			judges(t, "Step", asked{c: bare, l: l}, step(asked{c: bare, l: l}), false)
		}
	}
	for factor, right := range map[int64]bool{0: true, 1: true, -1: true, api.MaxNum: true, -api.MaxNum: true, api.MaxNum + 1: false, -api.MaxNum - 1: false, math.MinInt64: false, math.MaxInt64: false} {
		for _, l := range [][]api.Hold{holds(1, factor), holds(2, 1, 1, factor), holds(1, factor, 1, 1), holds(0, 1, 0, factor, 0, 1)} {
			judges(t, "Step", asked{c: c, l: l}, step(asked{c: c, l: l}), right)
		}
	}
	for count, right := range map[int]bool{249: true, 250: true, 251: false, 252: false, 1 << 20: false} {
		a := asked{c: c, l: slices.Repeat(holds(1, 5), count)}
		judges(t, "Step", a, step(a), right)
	}
}

// P18.2: choices: a name and 1 or 2, or none, whatever is held.
func TestWrongChoices(t *testing.T) {
	c := read("IPay EUR", api.Wait{}, api.Wait{Label: "a", First: 1})
	for _, label := range []string{"", "a", "if", "zz_9", strings.Repeat("z", 24), strings.Repeat("z", 25), "A", "_", "0", "a.b", "a ", "\xff", "EUR"} {
		for _, which := range []int{math.MinInt, -1, 0, 1, 2, 3, 1 + 1<<32, math.MaxInt} {
			name := strings.Trim(label, "abcdefghijklmnopqrstuvwxyz0123456789_") == "" && label != "" && label[0] >= 'a' && len(label) <= 24
			right := name && (which == 1 || which == 2) || label == "" && which == 0
			for _, l := range [][]api.Hold{nil, holds(0, 1), holds(1, 1)} {
				a := asked{c: c, l: l, on: 9, pick: picks(label, which)}
				judges(t, "Step", a, step(a), right)
			}
		}
	}
}

// P18.1, P18.2: what is no right bytecode, be the fault ever reached or not.
func TestWrongCodes(t *testing.T) {
	end, pay := instr("IEnd"), instr("IPay EUR")
	for _, test := range []struct {
		c     api.Code
		right bool
	}{
		{api.Code{}, false}, {api.Code{Ins: []api.Instr{}}, false}, {api.Code{Ins: []api.Instr{{}}}, false}, {api.Code{Ins: []api.Instr{end}}, true}, {api.Code{Ins: []api.Instr{pay}}, false}, {api.Code{Ins: []api.Instr{end, pay}}, false},
		{api.Code{Regs: -1, Ins: []api.Instr{end}}, false}, {api.Code{Regs: 256, Ins: []api.Instr{end}}, true}, {api.Code{Regs: 257, Ins: []api.Instr{end}}, false}, {api.Code{Regs: math.MaxInt, Ins: []api.Instr{end}}, false},
		{api.Code{Ins: []api.Instr{end, instr("IScale 0"), end}}, false}, {api.Code{Regs: 1, Ins: []api.Instr{instr("IScale 0"), end}}, true}, {api.Code{Regs: 1, Ins: []api.Instr{instr("IScale 1"), end}}, false}, {api.Code{Regs: 1, Ins: []api.Instr{instr("IScale -1"), end}}, false}, {api.Code{Regs: 256, Ins: []api.Instr{instr("IAdd 0 255 256"), end}}, false},
		{api.Code{Ins: []api.Instr{instr("IGo 0"), end}}, false}, {api.Code{Ins: []api.Instr{instr("IGo 1"), end}}, true}, {api.Code{Ins: []api.Instr{instr("IGo 2"), end}}, false}, {api.Code{Ins: []api.Instr{end, instr("IGo 1"), end}}, false},
		{api.Code{Ins: []api.Instr{instr("ICall 0"), end}}, false}, {api.Code{Ins: []api.Instr{instr("IWait 0"), end}}, false}, {api.Code{Waits: []api.Wait{{}}, Ins: []api.Instr{instr("ICall 0"), end}}, false}, {api.Code{Waits: []api.Wait{{Entry: 1}}, Ins: []api.Instr{instr("ICall 0"), end}}, true}, {api.Code{Waits: []api.Wait{{Entry: 1}}, Ins: []api.Instr{instr("ICall -1"), end}}, false}, {api.Code{Waits: []api.Wait{{}}, Ins: []api.Instr{instr("IWait 1"), end}}, false},
		{api.Code{Waits: []api.Wait{{Entry: 1}}, Ins: []api.Instr{end}}, false}, {api.Code{Waits: []api.Wait{{Entry: -1}}, Ins: []api.Instr{end}}, false}, {api.Code{Waits: []api.Wait{{First: 1}}, Ins: []api.Instr{end, end}}, false}, {api.Code{Waits: []api.Wait{{Label: "a", First: 2}}, Ins: []api.Instr{end, end}}, false}, {api.Code{Waits: []api.Wait{{Label: "A"}}, Ins: []api.Instr{end}}, false}, {api.Code{Waits: make([]api.Wait, 250), Ins: []api.Instr{end}}, true}, {api.Code{Waits: make([]api.Wait, 251), Ins: []api.Instr{end}}, false},
		{api.Code{Ins: slices.Repeat([]api.Instr{end}, 16384)}, true}, {api.Code{Ins: slices.Repeat([]api.Instr{end}, 16385)}, false}, {api.Code{Ins: []api.Instr{end, {Op: api.IEnd + 1}, end}}, false}, {api.Code{Ins: []api.Instr{end, {Op: -1}, end}}, false}, {api.Code{Ins: []api.Instr{{Op: api.IEnd, N: 1}}}, false}, {api.Code{Ins: []api.Instr{{Op: api.IPay, S: "eur"}, end}}, false}, {api.Code{Ins: []api.Instr{end, {Op: api.IPay}, end}}, false},
	} {
		if gen.Right(test.c) != test.right {
			t.Errorf("%.300v", test.c)
		}
		both(t, asked{c: test.c, on: 3}, test.right)
	}
}

// P18.1, P18.2, R1: bytecodes by chance of which one thing was changed: as gen says; and none panics.
func TestSpoiltCodes(t *testing.T) {
	g := newGrower(181)
	seen := map[bool]int{}
	for range 20000 {
		c := g.spoilt(g.code())
		right := gen.Right(c)
		seen[right]++
		both(t, asked{c: c, on: g.day(), f: g.feeds(), pick: g.choice()}, right)
	}
	if seen[true] < 2000 || seen[false] < 5000 {
		t.Error(seen)
	}
}

// R3, R4: what is handed in stays as it is, its spare room too; what is answered is the caller's own, and the same each time.
func TestNothingIsShared(t *testing.T) {
	make1 := func() asked {
		a := asked{c: read("IFeed 0 a 1 4; IScale 0; IPay EUR; IWait 1; IWait 0; IPay USD", api.Wait{}, api.Wait{Entry: 3, Label: "ex", First: 2, Second: 4}), on: 6}
		a.c.Ins = append(make([]api.Instr, 0, 12), a.c.Ins...)
		a.c.Waits = append(make([]api.Wait, 0, 8), a.c.Waits...)
		a.l = append(make([]api.Hold, 0, 8), holds(1, 2, 0, 3)...)
		a.f = append(make([]api.Feed, 0, 8), told("a", 3, 2000000), told("b"))
		a.f[0].Stamps = append(make([]api.Stamp, 0, 8), a.f[0].Stamps...)
		return a
	}
	same := func(a asked) bool {
		b := make1()
		return reflect.DeepEqual(a, b) && slices.Equal(a.l[:8], b.l[:8]) && reflect.DeepEqual(a.f[:8], b.f[:8]) && slices.Equal(a.f[0].Stamps[:8], b.f[0].Stamps[:8]) && slices.Equal(a.c.Ins[:12], b.c.Ins[:12]) && slices.Equal(a.c.Waits[:8], b.c.Waits[:8])
	}
	a := make1()
	a.pick = picks("ex", 2)
	for range 3 {
		first := event{holds(0, 2, 1, 6, 0, 6), pays(6, "2 USD 6 EUR 6 USD"), 10, api.OK}
		got := step(a)
		if !got.is(first) {
			t.Fatal(got)
		}
		clear(got.holds[:cap(got.holds)])
		clear(got.transfers[:cap(got.transfers)])
		got = begin(a)
		if !got.is(event{holds(1, 2000000, 0, 2000000), pays(6, "2000000 EUR 2000000 USD"), 7, api.OK}) {
			t.Fatal(got)
		}
		clear(got.holds[:cap(got.holds)])
		clear(got.transfers[:cap(got.transfers)])
		a.pick = none
		if !same(a) {
			t.Fatal(a)
		}
		a.pick = picks("ex", 2)
	}
	c := read("IPay EUR")
	c.Waits = []api.Wait{}
	begins(t, asked{c: c, f: []api.Feed{}}, event{transfers: pays(0, "1000000 EUR"), steps: 2})
	steps(t, asked{c: c, l: []api.Hold{}, f: feeds(api.Feed{Name: "a", Stamps: []api.Stamp{}})}, event{})
}
