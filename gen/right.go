package gen

import (
	"usance/api"
	"usance/causal"
)

// What an Op's instructions use of A, B, C and To.
const (
	usesA = 1 << iota
	usesB
	usesC
	usesTo
	usesAB  = usesA | usesB
	usesABC = usesA | usesB | usesC
)

// uses are these by Ops; those that are not named use none of them.
var uses = [...]int{
	api.INum: usesA, api.IFeed: usesA | usesTo, api.INow: usesA,
	api.INeg: usesAB, api.INot: usesAB, api.IMove: usesAB,
	api.IAdd: usesABC, api.ISub: usesABC, api.IMul: usesABC, api.IDiv: usesABC,
	api.ILt: usesABC, api.ILe: usesABC, api.IEq: usesABC, api.IBefore: usesABC,
	api.IPlus: usesABC, api.IMonths: usesABC, api.IYears: usesABC, api.IYears30: usesABC,
	api.IFalse: usesB | usesTo, api.IGo: usesTo, api.IPast: usesTo, api.IAhead: usesTo,
	api.IScale: usesB, api.ISave: usesA, api.ILoad: usesB,
	api.IEnd: 0,
}

// registersOf is how many registers code uses that reads none but what it has laid.
func registersOf(ins []api.Instr) int {
	most := 0
	for _, i := range ins {
		if uses[i.Op]&usesA != 0 {
			most = max(most, i.A+1)
		}
	}
	return most
}

// Right: is it a bytecode?
func Right(c api.Code) bool {
	size := len(c.Ins)
	if !isWithin(c.Regs, 0, api.MaxRegs) || len(c.Waits) > api.MaxWaits || !isWithin(size, 1, api.MaxCode) || c.Ins[size-1].Op != api.IEnd {
		return false
	}
	for _, w := range c.Waits {
		if !isWait(w, size) {
			return false
		}
	}
	for at := range c.Ins {
		if !isInstr(c, at) {
			return false
		}
	}
	return true
}

// isWait: is it a right wait of a bytecode of so many instructions?
func isWait(w api.Wait, size int) bool {
	last := size - 1
	if w.Label == "" && (w.First != 0 || w.Second != 0) || w.Label != "" && !isTerm(api.OFeed, 0, w.Label) {
		return false
	}
	return isWithin(w.Entry, 0, last) && isWithin(w.Day, 0, api.MaxDay) && isWithin(w.First, 0, last) && isWithin(w.Second, 0, last)
}

// isInstr: is what stands at a place a right instruction?
func isInstr(c api.Code, at int) bool {
	i := c.Ins[at]
	if !isWithin(i.Op, api.INum, api.IEnd) || !hasOwn(i, len(c.Waits)) {
		return false
	}
	if i.Op == api.ICall && c.Waits[i.N].Entry <= at {
		return false
	}
	is := func(n, field, least, most int) bool {
		if uses[i.Op]&field == 0 {
			return n == 0
		}
		return isWithin(n, least, most)
	}
	last := c.Regs - 1
	return is(i.A, usesA, 0, last) && is(i.B, usesB, 0, last) && is(i.C, usesC, 0, last) && is(i.To, usesTo, at+1, len(c.Ins)-1)
}

// hasOwn: are an instruction's N and S such as its Op has?
func hasOwn(i api.Instr, waits int) bool {
	switch i.Op {
	case api.INum:
		return isTerm(api.ONum, i.N, i.S)
	case api.IFeed:
		return i.N >= 0 && isTerm(api.OFeed, i.N, i.S)
	case api.INow:
		return i.N >= 0 && isTerm(api.ONow, i.N, i.S)
	case api.IPast, api.IAhead:
		return isTerm(api.ODate, i.N, i.S)
	case api.IPay:
		return isTerm(api.COne, i.N, i.S)
	case api.IWait, api.ICall:
		return 0 <= i.N && i.N < int64(waits) && i.S == ""
	}
	return i.N == 0 && i.S == ""
}

// isTerm: are N and S those of a right core term of an Op without kids?
func isTerm(op int, n int64, s string) bool {
	_, is := causal.Type(api.Core{Op: op, N: n, S: s})
	return is
}

func isWithin(n, least, most int) bool { return least <= n && n <= most }
