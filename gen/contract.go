package gen

import "usance/api"

// maker puts the code of a contract, instruction by instruction.
type maker struct {
	code   api.Code
	terms  []api.Core // those that may wait, by the numbers of their waits
	shares bool       // are alike parts of an observable reckoned once?
}

func (m *maker) next() int { return len(m.code.Ins) }

func (m *maker) put(i api.Instr) { m.code.Ins = append(m.code.Ins, i) }

// jump puts an instruction whose To is known later: what it answers lays it to the place that is the next one then.
func (m *maker) jump(i api.Instr) func() {
	at := m.next()
	m.put(i)
	return func() { m.code.Ins[at].To = m.next() }
}

func (m *maker) end() { m.put(api.Instr{Op: api.IEnd}) }

// either puts two ways to go on: the second one is taken where a register is 0.
func (m *maker) either(truth int, first, second func()) {
	no := m.jump(api.Instr{Op: api.IFalse, B: truth})
	first()
	done := m.jump(api.Instr{Op: api.IGo})
	no()
	second()
	done()
}

// putAll puts a contract, and then the waits that it calls, and that these call, each behind what calls it.
func (m *maker) putAll(c api.Core) {
	m.acquire(c, 0)
	m.end()
	for n := 0; n < len(m.terms); n++ {
		m.code.Waits[n].Entry = m.next()
		m.putWait(n)
	}
}

// putWait puts what a term does whenever it is acquired.
func (m *maker) putWait(n int) {
	c := m.terms[n]
	if c.Op == api.CPick {
		m.putPick(n)
		return
	}
	lacking := m.body(c, 0)
	m.end()
	lacking()
	m.wait(n)
}

func (m *maker) wait(n int) {
	m.put(api.Instr{Op: api.IWait, N: int64(n)})
	m.end()
}

// putPick puts what a CPick does without a choice, with one for its first contract, and with one for its second, which is what it does past its day, too.
func (m *maker) putPick(n int) {
	c := m.terms[n]
	past := m.jump(api.Instr{Op: api.IPast, N: c.N})
	m.wait(n)
	m.code.Waits[n].First = m.next()
	pastPicked := m.jump(api.Instr{Op: api.IPast, N: c.N})
	m.acquire(c.Kids[0], 0)
	m.end()
	past()
	pastPicked()
	m.code.Waits[n].Second = m.next()
	m.acquire(c.Kids[1], 0)
	m.end()
}

// acquire puts what a contract does, a call, if it may wait. Registers from free on are its own.
func (m *maker) acquire(c api.Core, free int) {
	if !mayWait(c) {
		m.body(c, free)
		return
	}
	m.put(api.Instr{Op: api.ICall, N: int64(len(m.terms))})
	m.terms = append(m.terms, c)
	m.code.Waits = append(m.code.Waits, waitOf(c))
}

// body puts what a contract does that lacks nothing (no CPick, which always lacks a choice). What it answers lays to the next place what is to be gone on with where something is lacking.
func (m *maker) body(c api.Core, free int) func() {
	switch c.Op {
	case api.COne:
		m.put(api.Instr{Op: api.IPay, S: c.S})
	case api.CGive:
		m.put(api.Instr{Op: api.IGive})
		m.acquire(c.Kids[0], free)
	case api.CBoth:
		m.put(api.Instr{Op: api.ISave, A: free})
		m.acquire(c.Kids[0], free+1)
		m.put(api.Instr{Op: api.ILoad, B: free})
		m.acquire(c.Kids[1], free)
	case api.CScale:
		return m.scale(c, free)
	case api.CIf:
		return m.choose(c, free)
	case api.CAt:
		ahead := m.jump(api.Instr{Op: api.IAhead, N: c.N})
		m.acquire(c.Kids[0], free)
		return ahead
	case api.CWhen:
		return m.when(c, free)
	}
	return func() {}
}

func (m *maker) scale(c api.Core, free int) func() {
	times, unknown := m.observe(c.Kids[0], free)
	m.put(api.Instr{Op: api.IScale, B: times})
	m.acquire(c.Kids[1], free)
	return unknown
}

func (m *maker) choose(c api.Core, free int) func() {
	truth, unknown := m.observe(c.Kids[0], free)
	m.either(truth, func() { m.acquire(c.Kids[1], free) }, func() { m.acquire(c.Kids[2], free) })
	return unknown
}

func (m *maker) when(c api.Core, free int) func() {
	past := m.jump(api.Instr{Op: api.IPast, N: c.N})
	truth, unknown := m.observe(c.Kids[0], free)
	no := m.jump(api.Instr{Op: api.IFalse, B: truth})
	m.acquire(c.Kids[1], free)
	past()
	return func() {
		unknown()
		no()
	}
}
