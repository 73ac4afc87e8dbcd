package vm_test

import (
	"fmt"
	"testing"

	"usance/api"
	"usance/date"
	"usance/vm"
)

// leaves checks what instructions leave in the register 0: it is paid behind them.
func leaves(t *testing.T, text string, on int, f []api.Feed, want int64) {
	t.Helper()
	l, out, _, e := vm.Begin(read(text+"; ILoad 0; IPay EUR"), on, f)
	got := int64(0)
	for _, one := range out {
		got += one.Amount
	}
	if e != api.OK || len(l) > 0 || got != want || len(out) > 0 != (want != 0) {
		t.Errorf("%s on %d: %v, %v, want %d", text, on, out, e, want)
	}
}

func dayOf(year, month, day int) int64 {
	d, e := date.Of(year, month, day)
	if e != api.OK {
		panic("no day")
	}
	return int64(d)
}

// The rows of one register and of two.
func TestReckoning(t *testing.T) {
	const most = 1000000000000000
	for _, test := range []struct {
		op         string
		b, c, want int64
	}{
		{"IAdd", 3, 4, 7}, {"IAdd", most, 1, most}, {"IAdd", -most, -1, -most}, {"IAdd", most, -most, 0},
		{"ISub", 3, 4, -1}, {"ISub", -most, 1, -most}, {"ISub", most, -1, most}, {"ISub", 4, 3, 1},
		{"IMul", 1500000, 3, 4}, {"IMul", 500000, 1, 0}, {"IMul", 500000, 3, 2}, {"IMul", most, most, most}, {"IMul", most, -most, -most}, {"IMul", 2000000, -3000000, -6000000},
		{"IDiv", 1000000, 3000000, 333333}, {"IDiv", 5, 0, 0}, {"IDiv", 2000000, 3000000, 666667}, {"IDiv", most, 1, most}, {"IDiv", -6000000, 2000000, -3000000},
		{"ILt", 1, 2, 1}, {"ILt", 2, 2, 0}, {"ILt", 3, 2, 0}, {"ILt", -most, most, 1}, {"ILt", -1, 0, 1},
		{"ILe", 1, 2, 1}, {"ILe", 2, 2, 1}, {"ILe", 3, 2, 0}, {"ILe", most, -most, 0},
		{"IEq", 1, 2, 0}, {"IEq", 2, 2, 1}, {"IEq", 3, 2, 0}, {"IEq", -2, 2, 0},
		{"IBefore", 1, 2, 1}, {"IBefore", 2, 2, 0}, {"IBefore", 3, 2, 0}, {"IBefore", -6, -5, 1}, {"IBefore", 73049, 73050, 1}, {"IBefore", 73050, 73049, 0},
		{"IPlus", 10, 3900000, 13}, {"IPlus", 10, -3900000, 7}, {"IPlus", 10, 999999, 10}, {"IPlus", 73040, 100000000, 73048}, {"IPlus", 3, -10000000, 0}, {"IPlus", -50, 5000000, 5}, {"IPlus", 100000, -8000000, 73040}, {"IPlus", most, -most, 0}, {"IPlus", -most, most, 73048}, {"IPlus", most, -1000000, 73047},
		{"IMonths", dayOf(2024, 1, 31), 1000000, dayOf(2024, 2, 29)}, {"IMonths", dayOf(2024, 1, 31), 1999999, dayOf(2024, 2, 29)}, {"IMonths", dayOf(2024, 1, 31), -2000000, dayOf(2023, 11, 30)}, {"IMonths", 0, -1000000, 0}, {"IMonths", 9, -999999, 9}, {"IMonths", 73048, most, 73048}, {"IMonths", most, -1000000, dayOf(2099, 11, 30)}, {"IMonths", -most, 1000000, 31},
		{"IYears", 0, 365, 1000000}, {"IYears", 10, 0, -27397}, {"IYears", -9, 365, 1000000}, {"IYears", 73048 - 365, most, 1000000}, {"IYears", most, -most, -200131507},
		{"IYears30", dayOf(2024, 1, 31), dayOf(2024, 3, 31), 166667}, {"IYears30", dayOf(2024, 3, 31), dayOf(2024, 1, 31), -166667}, {"IYears30", -9, dayOf(1901, 1, 1), 1000000}, {"IYears30", dayOf(2098, 12, 31), most, 1000000},
	} {
		for _, text := range []string{"INum 1 %d; INum 2 %d; %s 0 1 2", "INum 0 %d; INum 7 %d; %s 0 0 7", "INum 5 %d; INum 0 %d; %s 0 5 0"} {
			leaves(t, fmt.Sprintf(text, test.b, test.c, test.op), 9, nil, test.want)
		}
	}
	for _, test := range []struct {
		op      string
		b, want int64
	}{
		{"INeg", 5, -5}, {"INeg", -most, most}, {"INeg", most, -most}, {"INeg", 0, 0}, {"INot", 0, 1}, {"INot", 1, 0}, {"INot", 2, 0}, {"INot", -1, 0}, {"INot", 1000000, 0}, {"IMove", 5, 5}, {"IMove", -most, -most}, {"IMove", 0, 0},
	} {
		leaves(t, fmt.Sprintf("INum 0 9; INum 1 %d; %s 0 1", test.b, test.op), 9, nil, test.want)
		leaves(t, fmt.Sprintf("INum 0 %d; %s 0 0", test.b, test.op), 9, nil, test.want)
	}
	leaves(t, "INum 0 7; INum 0 -8", 9, nil, -8)
	leaves(t, "INum 3 7; INum 4 9; IAdd 0 3 3", 9, nil, 14)
	leaves(t, "INum 1 7; IMove 0 1; INum 1 9", 9, nil, 7)
	leaves(t, "INum 0 7; IMove 1 0; ISub 2 1 0", 9, nil, 7)
}

// All registers are there, each by itself, and 0 at first.
func TestRegisters(t *testing.T) {
	c := api.Code{Regs: 256}
	for r := range 256 {
		c.Ins = append(c.Ins, api.Instr{Op: api.ILoad, B: r}, api.Instr{Op: api.IPay, S: "EUR"})
	}
	for r := range 256 {
		c.Ins = append(c.Ins, api.Instr{Op: api.INum, A: r, N: int64(r + 1)})
	}
	for r := range 256 {
		c.Ins = append(c.Ins, api.Instr{Op: api.ILoad, B: r}, api.Instr{Op: api.IPay, S: "USD"})
	}
	c.Ins = append(c.Ins, api.Instr{Op: api.IEnd})
	got := begin(asked{c: c, on: 3})
	if got.e != api.OK || got.steps != 256*5+1 || len(got.transfers) != 256 {
		t.Fatal(got)
	}
	for r, one := range got.transfers {
		if one != (api.Transfer{Day: 3, Cur: "USD", Amount: int64(r + 1)}) {
			t.Fatal(r, one)
		}
	}
}

// Days: INow, IPast, IAhead.
func TestDays(t *testing.T) {
	for _, test := range [][3]int64{{9, 0, 9}, {9, 4, 5}, {9, 9, 0}, {9, 10, 0}, {9, 3660, 0}, {0, 0, 0}, {0, 1, 0}, {73048, 0, 73048}, {73048, 3660, 69388}} {
		leaves(t, fmt.Sprintf("INum 0 77; INow 0 %d", test[1]), int(test[0]), nil, test[2])
	}
	for _, test := range []struct {
		on          int
		n           int64
		past, ahead bool
	}{
		{9, 8, true, false}, {9, 9, false, false}, {9, 10, false, true}, {0, 0, false, false}, {0, 73048, false, true}, {73048, 0, true, false}, {73048, 73048, false, false},
	} {
		for text, jumps := range map[string]bool{"IPast %d 2; IGive; IPay EUR": test.past, "IAhead %d 2; IGive; IPay EUR": test.ahead} {
			want := event{transfers: pays(test.on, "-1000000 EUR"), steps: 4}
			if jumps {
				want = event{transfers: pays(test.on, "1000000 EUR"), steps: 3}
			}
			begins(t, asked{c: read(fmt.Sprintf(text, test.n)), on: test.on}, want)
		}
	}
}

// Feeds: the last stamp that is not later; elsewhere the register stays, and it goes on at To.
func TestFeeds(t *testing.T) {
	f := feeds(told("a", 3, 30, 5, -50, 73048, 9), told("b"), told("c", 0, 7), told("z", 4, 0))
	known := func(text string, on int, want int64) {
		t.Helper()
		leaves(t, "INum 0 99; IFeed 0 "+text+" 3; IAdd 0 0 1", on, f, want)
		begins(t, asked{c: read("INum 0 99; IFeed 0 "+text+" 3; IWait 0; IScale 0", api.Wait{}), on: on, f: f}, event{holds: holds(0, 1000000), steps: 5})
	}
	unknown := func(text string, on int) {
		t.Helper()
		leaves(t, "INum 0 99; IFeed 0 "+text+" 3; INum 0 88; INum 1 77", on, f, 99)
		begins(t, asked{c: read("INum 0 99; IFeed 0 "+text+" 3; IWait 0; IScale 0", api.Wait{}), on: on, f: f}, event{steps: 4})
	}
	known("a 0", 3, 30)
	known("a 0", 4, 30)
	known("a 0", 5, -50)
	known("a 0", 73047, -50)
	known("a 0", 73048, 9)
	known("a 1", 73048, -50)
	known("a 1", 4, 30)
	known("a 1", 5, 30)
	known("a 1", 6, -50)
	known("a 3660", 3663, 30)
	known("a 3660", 3665, -50)
	known("c 0", 0, 7)
	known("c 3660", 3660, 7)
	known("c 3660", 73048, 7)
	known("z 0", 4, 0)
	unknown("a 0", 2)
	unknown("a 0", 0)
	unknown("a 1", 3)
	unknown("a 3660", 3662)
	unknown("a 9", 4)
	unknown("b 0", 73048)
	unknown("c 1", 0)
	unknown("c 3660", 3659)
	unknown("z 0", 3)
	for _, name := range []string{"aa", "a_", "ab", "d", "if", "zz"} {
		unknown(name+" 0", 73048)
	}
}

// Where it goes on: IFalse, IGo, IEnd.
func TestJumps(t *testing.T) {
	for n, jumps := range map[int64]bool{0: true, 1: false, 2: false, -1: false, 1000000: false} {
		want := event{transfers: pays(3, "-1000000 EUR"), steps: 5}
		if jumps {
			want = event{transfers: pays(3, "1000000 EUR"), steps: 4}
		}
		begins(t, asked{c: read(fmt.Sprintf("INum 3 %d; IFalse 3 3; IGive; IPay EUR", n)), on: 3}, want)
	}
	begins(t, asked{c: read("IFalse 7 2; IGive; IPay EUR"), on: 3}, event{transfers: pays(3, "1000000 EUR"), steps: 3})
	begins(t, asked{c: read("IGo 1; IPay EUR"), on: 3}, event{transfers: pays(3, "1000000 EUR"), steps: 3})
	begins(t, asked{c: read("IGo 3; IPay EUR; IPay USD; IGo 5; IPay GBP; IPay CHF"), on: 3}, event{transfers: pays(3, "1000000 CHF"), steps: 4})
	begins(t, asked{c: read("IGo 4; IPay EUR; IPay USD; IPay GBP"), on: 3}, event{steps: 2})
	begins(t, asked{c: read("IPay EUR; IEnd; IPay USD; IEnd"), on: 3}, event{transfers: pays(3, "1000000 EUR"), steps: 2})
}

// The factor: IScale, IGive, ISave, ILoad, and what is paid of it.
func TestFactor(t *testing.T) {
	for _, test := range []struct {
		text, want string
		steps      int
	}{
		{"INum 1 1500000; IScale 1; IPay EUR; IScale 1; IPay EUR", "1500000 EUR 2250000 EUR", 6},
		{"INum 1 -3; IScale 1; IPay EUR; IGive; IPay USD; IGive; IPay GBP", "-3 EUR 3 USD -3 GBP", 8},
		{"INum 1 1000000000000000; IScale 1; IPay EUR; IScale 1; IPay EUR", "1000000000000000 EUR 1000000000000000 EUR", 6},
		{"IScale 1; IPay EUR; IGive; IPay EUR; IWait 0", "", 6},
		{"ISave 2; IGive; IPay EUR; ILoad 2; IPay USD; IScale 2; IPay GBP", "-1000000 EUR 1000000 USD 1000000 GBP", 8},
		{"INum 2 500000; IScale 2; ISave 2; IAdd 2 2 2; IPay EUR; ILoad 2; IPay USD", "500000 EUR 1000000 USD", 8},
		{"ILoad 2; IPay EUR; INum 2 -5; ILoad 2; IPay EUR; IPay EUR", "-5 EUR -5 EUR", 7},
	} {
		want := event{transfers: pays(3, test.want), steps: test.steps}
		if test.want == "" {
			want.holds = holds(0, 0)
		}
		begins(t, asked{c: read(test.text, api.Wait{}), on: 3}, want)
	}
}

// Calls: registers of their own, which are 0 at first; behind them the factor and the registers that were; what comes of them in order.
func TestCalls(t *testing.T) {
	inner := api.Wait{Entry: 12, Day: 5, Label: "ex", First: 0, Second: 1}
	c := read("INum 1 3000000; INum 2 7; IScale 1; IPay AAA; ICall 0; IPay BBB; ILoad 2; IPay CCC; ICall 0; ILoad 1; IPay DDD; IEnd; ISave 4; IPay EEE; IGive; IWait 0; ILoad 2; IPay FFF; INum 1 8; INum 2 9; ILoad 2; IPay GGG", inner)
	begins(t, asked{c: c, on: 3}, event{holds(0, -3000000, 0, -7), pays(3, "3000000 AAA 3000000 EEE 9 GGG 3000000 BBB 7 CCC 7 EEE 9 GGG 3000000 DDD"), 12 + 2*11, api.OK})
	c = read("ICall 2; ICall 0; IPay AAA; IEnd; INum 0 5; IGive; ICall 2; IPay BBB; IEnd; IPay CCC; IGive; ILoad 0; IPay DDD", api.Wait{Entry: 4}, api.Wait{Entry: 0}, api.Wait{Entry: 9})
	begins(t, asked{c: c, on: 3}, event{transfers: pays(3, "1000000 CCC -1000000 CCC -1000000 BBB 1000000 AAA"), steps: 4 + 5 + 5 + 5})
	c = read("INum 0 5; ICall 0; IEnd; IPay AAA; IGo 6; IPay BBB; IGive", api.Wait{Entry: 3})
	begins(t, asked{c: c, on: 3}, event{transfers: pays(3, "1000000 AAA"), steps: 7})
	c = read("IPay AAA; ICall 0; IPay BBB; IPay CCC", api.Wait{Entry: 2})
	begins(t, asked{c: c, on: 3}, event{transfers: pays(3, "1000000 AAA 1000000 BBB 1000000 CCC 1000000 BBB 1000000 CCC"), steps: 8})
}

// Registers are 0 at first in each hold's run, too.
func TestRegistersOfEachRun(t *testing.T) {
	c := read("ILoad 3; IPay EUR; INum 3 7; ILoad 3; IPay USD", api.Wait{})
	steps(t, asked{c: c, l: holds(0, 1, 0, 2, 0, 3), on: 4}, event{transfers: pays(4, "7 USD 7 USD 7 USD"), steps: 18})
}
