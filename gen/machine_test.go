package gen_test

import (
	"testing"

	"usance/api"
	"usance/date"
	"usance/num"
)

// machine runs bytecode on a day, row by row as the chapter's table says.
type machine struct {
	code      api.Code
	on        int
	feeds     []api.Feed
	holds     []api.Hold
	transfers []api.Transfer
	steps     int
}

// told is a feed's value on a day.
func (m *machine) told(name string, on int) (n int64, known bool) {
	for _, f := range m.feeds {
		for _, s := range f.Stamps {
			if f.Name == name && s.Day <= on {
				n, known = s.N, true
			}
		}
	}
	return n, known
}

func truth(is bool) int64 {
	if is {
		return 1
	}
	return 0
}

// reckoned is what a row makes of two registers.
func reckoned(op int, b, c int64) int64 {
	switch op {
	case api.INeg:
		return num.Neg(b)
	case api.INot:
		return truth(b == 0)
	case api.IAdd:
		return num.Add(b, c)
	case api.ISub:
		return num.Sub(b, c)
	case api.IMul:
		return num.Mul(b, c)
	case api.IDiv:
		return num.Div(b, c)
	case api.ILt, api.IBefore:
		return truth(b < c)
	case api.ILe:
		return truth(b <= c)
	case api.IEq:
		return truth(b == c)
	case api.IPlus:
		return int64(date.Plus(int(b), num.Whole(c)))
	case api.IMonths:
		return int64(date.Months(int(b), num.Whole(c)))
	case api.IYears:
		return date.Years(int(b), int(c))
	case api.IYears30:
		return date.Years30(int(b), int(c))
	case api.IMove:
		return b
	}
	panic("no such row")
}

// run does a run from a place on.
func (m *machine) run(at int, f int64) {
	regs := make([]int64, m.code.Regs)
	for {
		i := m.code.Ins[at]
		m.steps++
		at++
		goesOn := false
		switch i.Op {
		case api.INum:
			regs[i.A] = i.N
		case api.IFeed:
			if n, known := m.told(i.S, m.on-int(i.N)); known {
				regs[i.A] = n
			} else {
				goesOn = true
			}
		case api.INow:
			regs[i.A] = max(0, min(api.MaxDay, int64(m.on)-i.N))
		case api.IFalse:
			goesOn = regs[i.B] == 0
		case api.IGo:
			goesOn = true
		case api.IPast:
			goesOn = int64(m.on) > i.N
		case api.IAhead:
			goesOn = int64(m.on) < i.N
		case api.IScale:
			f = num.Mul(f, regs[i.B])
		case api.IGive:
			f = num.Neg(f)
		case api.ISave:
			regs[i.A] = f
		case api.ILoad:
			f = max(-api.MaxNum, min(api.MaxNum, regs[i.B]))
		case api.IPay:
			if f != 0 {
				m.transfers = append(m.transfers, api.Transfer{Day: m.on, Cur: i.S, Amount: f})
			}
		case api.IWait:
			m.holds = append(m.holds, api.Hold{Wait: int(i.N), Factor: f})
		case api.ICall:
			m.run(m.code.Waits[i.N].Entry, f)
		case api.IEnd:
			return
		default:
			regs[i.A] = reckoned(i.Op, regs[i.B], regs[i.C])
		}
		if goesOn {
			at = i.To
		}
	}
}

// step runs what is held.
func (m *machine) step(held []api.Hold, pick api.Choice) {
	for _, h := range held {
		w := m.code.Waits[h.Wait]
		from := w.Entry
		if pick.Label != "" && pick.Label == w.Label {
			from = []int{w.First, w.Second}[pick.Which-1]
		}
		m.run(from, h.Factor)
	}
}

// The tests' own machine does chapter 18's examples.
func TestMachine(t *testing.T) {
	code := api.Code{Waits: []api.Wait{{Entry: 2, Day: 10}}, Ins: []api.Instr{{Op: api.ICall}, {Op: api.IEnd}, {Op: api.IAhead, N: 10, To: 5}, {Op: api.IPay, S: "EUR"}, {Op: api.IEnd}, {Op: api.IWait}, {Op: api.IEnd}}}
	m := machine{code: code, on: 5}
	m.run(0, 1000000)
	if len(m.holds) != 1 || m.holds[0] != (api.Hold{Factor: 1000000}) || len(m.transfers) != 0 || m.steps != 5 {
		t.Error(m)
	}
	then := machine{code: code, on: 10}
	then.step(m.holds, api.Choice{})
	if len(then.holds) != 0 || len(then.transfers) != 1 || then.transfers[0] != (api.Transfer{Day: 10, Cur: "EUR", Amount: 1000000}) || then.steps != 3 {
		t.Error(then)
	}
}
