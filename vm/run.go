package vm

import (
	"usance/api"
	"usance/date"
	"usance/num"
)

// run is what a run has of its own.
type run struct {
	regs   [api.MaxRegs]int64
	next   int // the place of its next instruction
	factor int64
}

// do does an instruction that changes nothing but its run.
func (r *run) do(i api.Instr, w world) {
	switch i.Op {
	case api.IFeed:
		r.feed(i, w)
	case api.INow:
		r.regs[i.A] = int64(date.Plus(w.day, -i.N))
	case api.IFalse:
		r.jump(i.To, r.regs[i.B] == 0)
	case api.IGo:
		r.jump(i.To, true)
	case api.IPast:
		r.jump(i.To, int64(w.day) > i.N)
	case api.IAhead:
		r.jump(i.To, int64(w.day) < i.N)
	case api.IScale:
		r.factor = num.Mul(r.factor, r.regs[i.B])
	case api.IGive:
		r.factor = num.Neg(r.factor)
	case api.ISave:
		r.regs[i.A] = r.factor
	case api.ILoad:
		r.factor = num.Clamp(r.regs[i.B])
	case api.INum:
		r.regs[i.A] = i.N
	default:
		r.regs[i.A] = reckon(i.Op, r.regs[i.B], r.regs[i.C])
	}
}

// jump goes on elsewhere, if it is to.
func (r *run) jump(to int, is bool) {
	if is {
		r.next = to
	}
}

// feed leaves the register as it is where nothing is known.
func (r *run) feed(i api.Instr, w world) {
	n, known := w.told(i.S, w.day-int(i.N))
	if known {
		r.regs[i.A] = n
	}
	r.jump(i.To, !known)
}

// reckon is what an instruction makes of its registers (of one register: b).
func reckon(op int, b, c int64) int64 {
	switch op {
	case api.INeg:
		return num.Neg(b)
	case api.INot:
		return truth(b == 0)
	case api.IAdd:
		return num.Add(b, c)
	case api.ISub:
		return num.Sub(b, c)
	case api.IMul:
		return num.Mul(b, c)
	case api.IDiv:
		return num.Div(b, c)
	case api.ILt, api.IBefore:
		return truth(b < c)
	case api.ILe:
		return truth(b <= c)
	case api.IEq:
		return truth(b == c)
	case api.IPlus:
		return int64(date.Plus(int(b), num.Whole(c)))
	case api.IMonths:
		return int64(date.Months(int(b), num.Whole(c)))
	case api.IYears:
		return date.Years(int(b), int(c))
	case api.IYears30:
		return date.Years30(int(b), int(c))
	}
	return b // IMove
}

// truth is a truth's number.
func truth(is bool) int64 {
	if is {
		return 1
	}
	return 0
}
