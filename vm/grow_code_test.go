package vm_test

import (
	"math"
	"slices"

	"usance/api"
	"usance/gen"
)

// code is a right bytecode by chance.
func (g grower) code() api.Code { return g.codeOf(1+g.Intn(40), g.Intn(6), 1) }

// greatCode is one that takes many steps, of which few begin a wait, or end a run.
func (g grower) greatCode() api.Code {
	return g.codeOf(1000+g.Intn(15385), 100+g.Intn(151), 40)
}

// codeOf is one of so many instructions and waits, in which ends and beginning waits stand so many times more rarely than others.
func (g grower) codeOf(size, waits, rarely int) api.Code {
	c := api.Code{Regs: int(g.any(0, 1, 3, 6, 256)), Ins: slices.Repeat([]api.Instr{{Op: api.IEnd}}, size)}
	for range waits {
		w := api.Wait{Entry: max(g.Intn(size), g.Intn(size)), Day: g.day()}
		if g.Intn(2) == 0 {
			w.Label, w.First, w.Second = []string{"a", "b", "eur", "if"}[g.Intn(4)], g.Intn(size), g.Intn(size)
		}
		c.Waits = append(c.Waits, w)
	}
	for at := range size - 1 {
		for {
			i := g.instr(c, at)
			often := i.Op != api.IEnd && i.Op != api.IWait || g.Intn(rarely) == 0
			if often && fits(c, at, i) {
				c.Ins[at] = i
				break
			}
		}
	}
	if !gen.Right(c) {
		panic("no right bytecode")
	}
	return c
}

// fits: may an instruction stand at a place?
func fits(c api.Code, at int, i api.Instr) bool {
	fields := fieldsOf(i.Op)
	switch {
	case c.Regs == 0 && (slices.Contains(fields, "A") || slices.Contains(fields, "B")):
		return false
	case i.Op == api.IWait:
		return len(c.Waits) > 0
	case i.Op == api.ICall:
		return len(c.Waits) > 0 && c.Waits[i.N].Entry > at
	}
	return true
}

// instr is an instruction for a place, which may be none that fits there.
func (g grower) instr(c api.Code, at int) api.Instr {
	i := api.Instr{Op: 1 + g.Intn(api.IEnd)}
	few := max(1, min(c.Regs, 5))
	for _, field := range fieldsOf(i.Op) {
		switch field {
		case "A":
			i.A = g.Intn(few)
		case "B":
			i.B = g.Intn(few)
		case "C":
			i.C = g.Intn(few)
		case "S":
			i.S = map[int][]string{api.IFeed: {"a", "b", "eur"}, api.IPay: {"EUR", "USD", "GBP"}}[i.Op][g.Intn(3)]
		case "To":
			i.To = at + 1 + g.Intn(min(5, len(c.Ins)-at-1))
		}
	}
	switch i.Op {
	case api.INum:
		i.N = g.any(g.number(), g.number(), int64(g.day()), 0, 1)
	case api.IFeed, api.INow:
		i.N = g.any(0, 0, 1, 2, 9, 3660)
	case api.IPast, api.IAhead:
		i.N = int64(g.day())
	case api.IWait, api.ICall:
		i.N = g.Int63n(int64(max(1, len(c.Waits))))
	}
	return i
}

// spoilt is a bytecode one thing of which was changed.
func (g grower) spoilt(c api.Code) api.Code {
	n := int(g.any(-1, 0, 1, 2, 3, g.Int63n(40), 73049, math.MinInt64, math.MaxInt64))
	i := &c.Ins[g.Intn(len(c.Ins))]
	if len(c.Waits) > 0 && g.Intn(4) == 0 {
		w := &c.Waits[g.Intn(len(c.Waits))]
		*[]*int{&w.Entry, &w.Day, &w.First, &w.Second}[g.Intn(4)] = n
		return c
	}
	switch g.Intn(6) {
	case 0:
		c.Regs = n
	case 1:
		c.Ins = c.Ins[:len(c.Ins)-1]
	case 2:
		i.S = []string{"", "a", "EUR", "A", "a.b"}[g.Intn(5)]
	case 3:
		i.N = int64(n)
	default:
		*[]*int{&i.Op, &i.A, &i.B, &i.C, &i.To}[g.Intn(5)] = n
	}
	return c
}

// holds are some of a bytecode's waits, in any order, some of them more than once.
func (g grower) holds(c api.Code) []api.Hold {
	var out []api.Hold
	for range g.Intn(2*min(len(c.Waits), 6) + 1) {
		out = append(out, api.Hold{Wait: g.Intn(len(c.Waits)), Factor: g.number()})
	}
	return out
}
