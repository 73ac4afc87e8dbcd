package gen

import (
	"slices"

	"usance/api"
)

// spareRegs are those that are left to hold parts: all else of a contract takes no more than one for each term that stands within another one.
const spareRegs = api.MaxRegs - api.MaxDeep

// reckonOps are the instructions that reckon observables which ask all their kids.
var reckonOps = [...]int{
	api.ONum: api.INum, api.OBool: api.INum, api.ODate: api.INum, api.ONow: api.INow,
	api.ONeg: api.INeg, api.OAdd: api.IAdd, api.OSub: api.ISub, api.OMul: api.IMul, api.ODiv: api.IDiv,
	api.OLt: api.ILt, api.OLe: api.ILe, api.OEq: api.IEq, api.ONot: api.INot, api.OBefore: api.IBefore,
	api.OPlus: api.IPlus, api.OMonths: api.IMonths, api.OYears: api.IYears, api.OYears30: api.IYears30,
}

// observer puts what reckons an observable.
type observer struct {
	*maker
	parts
	held    []int // the parts that registers hold
	first   int   // the register of the first one; that of each next one is the next
	room    int   // how many they may be
	unknown []func()
}

// observe puts what reckons an observable, and answers the register in which it stands, and what lays to the next place what is to be gone on with where it is not known. Registers from free on are its own.
func (m *maker) observe(c api.Core, free int) (int, func()) {
	o := observer{maker: m, parts: partsOf(c, m.shares), first: free}
	o.room = min(o.howManyAskedAgain(), spareRegs)
	whole, behind := len(o.list)-1, free+o.room
	return o.value(whole, behind, behind), func() {
		for _, lay := range o.unknown {
			lay()
		}
	}
}

// holder is the register that holds a part (false: none does).
func (o *observer) holder(n int) (int, bool) {
	i := slices.Index(o.held, n)
	return o.first + i, i >= 0
}

// value answers the register in which a part stands: one that holds it, else to; unless one held it already, it puts what reckons it. Registers from free on are its own.
func (o *observer) value(n, to, free int) int {
	if r, holds := o.holder(n); holds {
		return r
	}
	if o.isAskedAgain(n) && len(o.held) < o.room {
		to = o.first + len(o.held)
		o.held = append(o.held, n) // ahead of its kids, none of which it is
	}
	o.reckon(n, to, free)
	return to
}

// branch puts a part into a register on one way of two: what registers come to hold on it they don't behind it.
func (o *observer) branch(n, to, free int) {
	if r, holds := o.holder(n); holds {
		o.move(to, r)
		return
	}
	before := len(o.held)
	o.reckon(n, to, free)
	o.held = o.held[:before]
}

func (o *observer) move(to, from int) {
	if to != from {
		o.put(api.Instr{Op: api.IMove, A: to, B: from})
	}
}

// reckon puts a part into a register, which is written last, or read no more ahead of that.
func (o *observer) reckon(n, to, free int) {
	p := o.list[n]
	switch p.op {
	case api.OFeed:
		o.unknown = append(o.unknown, o.jump(api.Instr{Op: api.IFeed, A: to, N: p.n, S: p.s}))
	case api.OAnd:
		o.move(to, o.value(p.kids[0], to, free))
		no := o.jump(api.Instr{Op: api.IFalse, B: to})
		o.branch(p.kids[1], to, free)
		no()
	case api.OOr:
		o.move(to, o.value(p.kids[0], to, free))
		o.either(to, func() {}, func() { o.branch(p.kids[1], to, free) })
	case api.OIf:
		truth := o.value(p.kids[0], free, free)
		o.either(truth, func() { o.branch(p.kids[1], to, free) }, func() { o.branch(p.kids[2], to, free) })
	default:
		o.reckonAll(p, to, free)
	}
}

// reckonAll puts a part that asks all its kids.
func (o *observer) reckonAll(p part, to, free int) {
	i := api.Instr{Op: reckonOps[p.op], A: to, N: p.n, S: p.s}
	if uses[i.Op]&usesB != 0 {
		i.B = o.value(p.kids[0], free, free)
	}
	if uses[i.Op]&usesC != 0 {
		i.C = o.value(p.kids[1], free+1, free+1)
	}
	o.put(i)
}
