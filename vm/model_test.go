package vm_test

import (
	"fmt"
	"testing"

	"usance/api"
	"usance/date"
	"usance/num"
)

// model is a plain machine, row by row as chapter 17's table says.
type model struct {
	asked
	event
	seen map[int]int // how often an Op was done
}

// told is a feed's value on a day.
func (m *model) told(name string, on int) (n int64, known bool) {
	for _, f := range m.f {
		for _, s := range f.Stamps {
			if f.Name == name && s.Day <= on {
				n, known = s.N, true
			}
		}
	}
	return n, known
}

func truth(is bool) int64 {
	if is {
		return 1
	}
	return 0
}

// reckoned are what the rows make of two registers.
var reckoned = map[int]func(b, c int64) int64{
	api.INeg: func(b, c int64) int64 { return num.Neg(b) },
	api.INot: func(b, c int64) int64 { return truth(b == 0) },
	api.IAdd: num.Add, api.ISub: num.Sub, api.IMul: num.Mul, api.IDiv: num.Div,
	api.ILt:      func(b, c int64) int64 { return truth(b < c) },
	api.ILe:      func(b, c int64) int64 { return truth(b <= c) },
	api.IEq:      func(b, c int64) int64 { return truth(b == c) },
	api.IBefore:  func(b, c int64) int64 { return truth(b < c) },
	api.IPlus:    func(b, c int64) int64 { return int64(date.Plus(int(b), num.Whole(c))) },
	api.IMonths:  func(b, c int64) int64 { return int64(date.Months(int(b), num.Whole(c))) },
	api.IYears:   func(b, c int64) int64 { return date.Years(int(b), int(c)) },
	api.IYears30: func(b, c int64) int64 { return date.Years30(int(b), int(c)) },
	api.IMove:    func(b, c int64) int64 { return b },
}

// run does a run from a place on, or as much of it as may be done.
func (m *model) run(at int, f int64) (tooMuch bool) {
	regs := map[int]int64{}
	for {
		if m.steps == 65536 {
			return true
		}
		m.steps++
		i := m.c.Ins[at]
		m.seen[i.Op]++
		to, jumps := at+1, false
		switch i.Op {
		case api.INum:
			regs[i.A] = i.N
		case api.IFeed:
			n, known := m.told(i.S, m.on-int(i.N))
			if jumps = !known; known {
				regs[i.A] = n
			}
		case api.INow:
			regs[i.A] = max(0, int64(m.on)-i.N)
		case api.IFalse:
			jumps = regs[i.B] == 0
		case api.IGo:
			jumps = true
		case api.IPast:
			jumps = int64(m.on) > i.N
		case api.IAhead:
			jumps = int64(m.on) < i.N
		case api.IScale:
			f = num.Mul(f, regs[i.B])
		case api.IGive:
			f = -f
		case api.ISave:
			regs[i.A] = f
		case api.ILoad:
			f = regs[i.B]
		case api.IPay:
			if f != 0 {
				m.transfers = append(m.transfers, api.Transfer{Day: m.on, Cur: i.S, Amount: f})
			}
		case api.IWait:
			if len(m.holds) == 250 {
				return true
			}
			m.holds = append(m.holds, api.Hold{Wait: int(i.N), Factor: f})
		case api.ICall:
			if m.run(m.c.Waits[i.N].Entry, f) {
				return true
			}
		case api.IEnd:
			return false
		default:
			regs[i.A] = reckoned[i.Op](regs[i.B], regs[i.C])
		}
		if at = to; jumps {
			at = i.To
		}
	}
}

// wants is what a call is to answer: Begin, or Step.
func (m *model) wants(isStep bool) event {
	m.event = event{}
	if !isStep {
		if m.run(0, 1000000) {
			return refused
		}
		return m.event
	}
	for _, h := range m.l {
		w := m.c.Waits[h.Wait]
		from := w.Entry
		if m.pick.Label != "" && m.pick.Label == w.Label {
			from = map[int]int{1: w.First, 2: w.Second}[m.pick.Which]
		}
		if m.run(from, h.Factor) {
			return refused
		}
	}
	return m.event
}

// P18.1 to P18.3: bytecodes by chance do what the rows say, on all days, with all feeds, for all choices.
func TestAsModel(t *testing.T) {
	g := newGrower(182)
	seen := map[int]int{}
	paid, began, refusals, longest := 0, 0, 0, 0
	for i := range 24000 {
		c := g.code()
		if i%120 == 0 {
			c = g.greatCode()
		}
		a := asked{c, g.holds(c), g.day(), g.feeds(), g.choice()}
		m := model{asked: a, seen: seen}
		for call, got := range []event{begin(a), step(a)} {
			if want := m.wants(call == 1); !got.is(want) {
				t.Fatalf("%v: %.500s, want %.500s", a, fmt.Sprint(got), fmt.Sprint(want))
			}
			if got.e != api.OK {
				refusals++
			}
			paid, began, longest = paid+len(got.transfers), began+len(got.holds), max(longest, got.steps)
		}
	}
	for op := api.INum; op <= api.IEnd; op++ {
		if seen[op] < 1000 {
			t.Error(rows[op-1], seen[op])
		}
	}
	if paid < 10000 || began < 10000 || refusals < 100 || longest < 20000 {
		t.Error(paid, began, refusals, longest)
	}
}
