package vm

import (
	"usance/api"
	"usance/gen"
)

// machine runs a bytecode in a world, and gathers what comes of all runs of one call.
type machine struct {
	world
	code      api.Code
	holds     []api.Hold
	transfers []api.Transfer
	steps     int
}

func (m *machine) isRight() bool { return m.world.isRight() && gen.Right(m.code) }

// isTooMuch: has more been done, or begun, than one call may?
func (m *machine) isTooMuch() bool {
	return m.steps > api.MaxFuel || len(m.holds) > api.MaxWaits
}

// done is what came of all runs.
func (m *machine) done() ([]api.Hold, []api.Transfer, int, api.Errno) {
	if m.isTooMuch() {
		return nil, nil, 0, api.ErrVmForm
	}
	return m.holds, m.transfers, m.steps, api.OK
}

// run does a run from a place on, to its end, or until it is too much. Runs stand within one another no deeper than there are waits: each begins behind what calls it, and none goes back.
func (m *machine) run(from int, factor int64) {
	r := run{next: from, factor: factor}
running:
	for !m.isTooMuch() {
		m.steps++
		i := m.code.Ins[r.next]
		r.next++
		switch i.Op {
		case api.IEnd:
			break running
		case api.ICall:
			m.run(m.code.Waits[i.N].Entry, r.factor)
		case api.IWait:
			m.holds = append(m.holds, api.Hold{Wait: int(i.N), Factor: r.factor})
		case api.IPay:
			m.pay(i.S, r.factor)
		default:
			r.do(i, m.world)
		}
	}
}

func (m *machine) pay(currency string, amount int64) {
	if amount != 0 {
		m.transfers = append(m.transfers, api.Transfer{Day: m.day, Cur: currency, Amount: amount})
	}
}
