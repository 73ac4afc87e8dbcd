package elab

import "usance/api"

// made is what an expression became: a core term or, without an Op, the currency S. What is asked of a term is kept beside it, so that no step goes through it: it is gone through but once, as the answer.
type made struct {
	op    int
	n     int64
	s     string
	kids  []made
	size  int
	depth int
	value int64 // of a constant number, truth or day
	back  int64 // all OFeeds and ONows in it look so many days further back than they say
	looks span
}

// span is how many days back a term's OFeeds and ONows look, at least and at most, if there are any.
type span struct {
	any         bool
	least, most int64
}

// with is the span of two terms.
func (s span) with(t span) span {
	switch {
	case !s.any:
		return t
	case !t.any:
		return s
	}
	return span{true, min(s.least, t.least), max(s.most, t.most)}
}

// currency is what a currency's three letters became.
func currency(s string) made { return made{s: s} }

// leaf is a term without kids.
func leaf(op int, n int64, s string) made {
	looks := span{any: op == api.OFeed || op == api.ONow}
	return made{op: op, n: n, s: s, size: 1, depth: 1, value: n, looks: looks}
}

// tree is a term with kids, unless it is too great.
func tree(op int, n int64, s string, kids []made) (made, api.Errno) {
	out := made{op: op, n: n, s: s, kids: kids}
	for _, kid := range kids {
		out.size += kid.size
		out.depth = max(out.depth, kid.depth)
		out.looks = out.looks.with(kid.looks)
	}
	out.size++
	out.depth++
	if out.size > api.MaxCore || out.depth > api.MaxDeep {
		return made{}, api.ErrElabSize
	}
	if !out.looks.any && !out.isContract() {
		out.value = valueOf(op, kids)
	}
	return out, api.OK
}

func (m made) isCurrency() bool { return m.op == 0 }

func (m made) isContract() bool { return m.op >= api.CZero }

// constant is a number's, a truth's or a day's value, where it must be the same on all days.
func (m made) constant() (int64, api.Errno) {
	if m.looks.any {
		return 0, api.ErrElabConst
	}
	return m.value, api.OK
}

// earlier is the same, as it was so many days ago, unless something in it would look too far.
func (m made) earlier(days int64) (made, api.Errno) {
	if !m.looks.any {
		return m, api.OK
	}
	m.back += days
	m.looks.least += days
	m.looks.most += days
	if !isLag(m.looks.least) || !isLag(m.looks.most) {
		return made{}, api.ErrElabConst
	}
	return m, api.OK
}

// core is the term, in memory of its own, within one that looks so many days further back.
func (m made) core(back int64) api.Core {
	back += m.back
	out := api.Core{Op: m.op, N: m.n, S: m.s}
	if m.op == api.OFeed || m.op == api.ONow {
		out.N = back
	}
	for _, kid := range m.kids {
		out.Kids = append(out.Kids, kid.core(back))
	}
	return out
}
