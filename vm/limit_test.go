package vm_test

import (
	"slices"
	"testing"

	"usance/api"
	"usance/gen"
)

// repeated are so many of an instruction.
func repeated(count int, text string) []api.Instr {
	return slices.Repeat([]api.Instr{instr(text)}, count)
}

// calling is a bytecode that calls a run so many times, behind so many gives; the run has so many instructions, the last of which is an end.
func calling(times, gives, size int, body string) api.Code {
	c := api.Code{Ins: slices.Concat(repeated(gives, "IGive"), repeated(times, "ICall 0"), repeated(1, "IEnd"))}
	c.Waits = []api.Wait{{Entry: len(c.Ins), Label: "ex", First: 0, Second: gives + times}}
	c.Ins = slices.Concat(c.Ins, repeated(size-1, body), repeated(1, "IEnd"))
	if !gen.Right(c) {
		panic("no right bytecode")
	}
	return c
}

// P18.3: 65536 steps are done, no more, wherever the last one stands.
func TestFuel(t *testing.T) {
	for _, size := range []int{8, 16, 255, 256, 4096, 4500} {
		for _, all := range []int{65535, 65536, 65537, 65538, 66000} {
			times := (all - 1) / (size + 1)
			c := calling(times, all-1-times*(size+1), size, "IGive")
			want := event{steps: all}
			if all > 65536 {
				want = refused
			}
			begins(t, asked{c: c, on: 3}, want)
			steps(t, asked{c: c, l: holds(0, 5), on: 3, pick: picks("ex", 1)}, want)
		}
	}
}

// P18.3: the steps of all holds together count, and what they paid is not told where they are too many.
func TestFuelOfAllHolds(t *testing.T) {
	c := calling(127, 0, 127, "IPay EUR")
	c.Waits = append(c.Waits, api.Wait{Entry: 0}, api.Wait{Entry: 127})
	runs, whole, end := holds(0, 7), holds(1, 7), holds(2, 7) // of 127, of 127 * 128 + 1, of 1 steps
	for _, test := range []struct{ runs, whole, ends int }{{0, 4, 0}, {4, 4, 0}, {4, 4, 1}, {5, 4, 0}, {3, 4, 127}, {3, 4, 128}, {132, 3, 0}, {132, 3, 1}, {132, 3, 2}, {133, 3, 0}, {250, 0, 0}, {0, 5, 0}, {0, 30, 0}, {0, 250, 0}} {
		l := slices.Concat(slices.Repeat(runs, test.runs), slices.Repeat(whole, test.whole), slices.Repeat(end, test.ends))
		want := event{steps: test.runs*127 + test.whole*(127*128+1) + test.ends}
		want.transfers = slices.Repeat(pays(3, "7 EUR"), test.runs*126+test.whole*127*126)
		if want.steps > 65536 {
			want = refused
		}
		steps(t, asked{c: c, l: l, on: 3}, want)
		slices.Reverse(l)
		steps(t, asked{c: c, l: l, on: 3}, want)
	}
}

// P18.3: exactly as many steps as may be, by holds.
func TestFuelToTheEnd(t *testing.T) {
	c := api.Code{Waits: []api.Wait{{Entry: 0}, {Entry: 16383}}, Ins: slices.Concat(repeated(16383, "IPay EUR"), repeated(1, "IEnd"))}
	four, one := slices.Repeat(holds(0, -2), 4), holds(1, 1)
	paid := slices.Repeat(pays(3, "-2 EUR"), 4*16383)
	steps(t, asked{c: c, l: four, on: 3}, event{transfers: paid, steps: 65536})
	steps(t, asked{c: c, l: append(slices.Clone(four), one...), on: 3}, refused)
	steps(t, asked{c: c, l: append(slices.Clone(one), four...), on: 3}, refused)
	steps(t, asked{c: c, l: slices.Concat(four[:3], slices.Repeat(one, 247)), on: 3}, event{transfers: paid[:3*16383], steps: 3*16384 + 247})
	steps(t, asked{c: c, l: slices.Repeat(holds(0, 0), 250), on: 3}, refused)
}

// P18.3: 250 waits begin, no more, wherever.
func TestManyWaits(t *testing.T) {
	for _, count := range []int{0, 1, 249, 250, 251, 252, 1000, 16000} {
		c := api.Code{Waits: []api.Wait{{Entry: 0}}, Ins: slices.Concat(repeated(1, "IPay EUR"), repeated(count, "IWait 0"), repeated(1, "IEnd"))}
		want := event{slices.Repeat(holds(0, 1000000), count), pays(3, "1000000 EUR"), count + 2, api.OK}
		other := event{slices.Repeat(holds(0, -7), count), pays(3, "-7 EUR"), count + 2, api.OK}
		if count > 250 {
			want, other = refused, refused
		}
		begins(t, asked{c: c, on: 3}, want)
		steps(t, asked{c: c, l: holds(0, -7), on: 3}, other)
	}
	for _, count := range []int{1, 124, 125, 126, 250} {
		c := read("IWait 1; IPay EUR; IWait 0", api.Wait{}, api.Wait{Entry: 1})
		want := event{e: api.OK, steps: 4 * count}
		for n := range count {
			want.holds = append(want.holds, holds(1, int64(n), 0, int64(n))...)
			if n > 0 {
				want.transfers = append(want.transfers, api.Transfer{Day: 3, Cur: "EUR", Amount: int64(n)})
			}
		}
		var l []api.Hold
		for n := range count {
			l = append(l, holds(0, int64(n))...)
		}
		if count > 125 {
			want = refused
		}
		steps(t, asked{c: c, l: l, on: 3}, want)
	}
	for _, size := range []int{1, 2, 6, 51, 126, 251} {
		for _, times := range []int{1, 2, 5, 50, 125, 250} {
			want := event{slices.Repeat(holds(0, 1000000), times*(size-1)), nil, times*(size+1) + 1, api.OK}
			if times*(size-1) > 250 {
				want = refused
			}
			begins(t, asked{c: calling(times, 0, size, "IWait 0"), on: 3}, want)
		}
	}
}

// tower is a bytecode of so many runs, each of which calls the next one so many times; the last one pays.
func tower(levels, times int) api.Code {
	var c api.Code
	for level := range levels {
		for range times {
			c.Ins = append(c.Ins, api.Instr{Op: api.ICall, N: int64(level)})
		}
		c.Ins = append(c.Ins, api.Instr{Op: api.IEnd})
		c.Waits = append(c.Waits, api.Wait{Entry: len(c.Ins)})
	}
	c.Ins = append(c.Ins, api.Instr{Op: api.IPay, S: "EUR"}, api.Instr{Op: api.IEnd})
	return c
}

// P18.3, R1: runs that stand as deep within one another as they may, and such as would go on without end.
func TestTowers(t *testing.T) {
	for _, levels := range []int{0, 1, 2, 3, 10, 14, 15, 16, 20, 100, 249, 250} {
		for _, times := range []int{1, 2, 3, 60} {
			all, paid := 2, 1
			for range levels {
				all, paid = min(times*(1+all)+1, 1<<20), min(times*paid, 1<<20)
			}
			want := refused
			if all <= 65536 {
				want = event{transfers: slices.Repeat(pays(3, "1000000 EUR"), paid), steps: all}
			}
			c := tower(levels, times)
			begins(t, asked{c: c, on: 3}, want)
			if levels > 0 {
				steps(t, asked{c: c, l: slices.Repeat(holds(0, 1), 250), on: 3, pick: picks("a", 1)}, step(asked{c: c, l: slices.Repeat(holds(0, 1), 250), on: 3}))
			}
		}
	}
	c := tower(250, 60)
	for op := range c.Waits {
		c.Waits[op].Label = "ex"
	}
	steps(t, asked{c: c, l: holds(249, 5), on: 3}, event{transfers: pays(3, "5 EUR"), steps: 2})
	steps(t, asked{c: c, l: holds(249, 5), on: 3, pick: picks("ex", 2)}, refused)
}

// P18.1, P18.2: the greatest feeds: each of their values is found.
func TestGreatFeeds(t *testing.T) {
	var f []api.Feed
	for i := range 64 {
		next := api.Feed{Name: string([]byte{'a', byte('a' + i/26), byte('a' + i%26)})}
		for k := range 4096 {
			next.Stamps = append(next.Stamps, api.Stamp{Day: i + 17*k, N: int64(i*10000 + k + 1)})
		}
		f = append(f, next)
	}
	for _, i := range []int{0, 1, 31, 32, 62, 63} {
		for _, k := range []int{0, 1, 2047, 2048, 4094, 4095} {
			for _, later := range []int{0, 1, 16} {
				leaves(t, "IFeed 0 "+f[i].Name+" 0 1", i+17*k+later, f, int64(i*10000+k+1))
				leaves(t, "IFeed 0 "+f[i].Name+" 3 1", i+17*k+later+3, f, int64(i*10000+k+1))
			}
		}
		if i > 0 {
			leaves(t, "IFeed 0 "+f[i].Name+" 0 1", i-1, f, 0)
		}
		leaves(t, "IFeed 0 "+f[i].Name+" 0 1", 73048, f, int64(i*10000+4096))
	}
	for _, name := range []string{"a", "ab", "acm", "b", "aaa_"} {
		leaves(t, "IFeed 0 "+name+" 0 1", 73048, f, 0)
	}
}
