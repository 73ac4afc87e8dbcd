package gen

import "usance/api"

// part is a term of an observable that tells its kids by their numbers, so that alike terms are the same part.
type part struct {
	op   int
	n    int64
	s    string
	kids [3]int // as many as its Op has
}

// parts are those of an observable, by their numbers, kids ahead of what asks them.
type parts struct {
	list    []part
	askers  []int // how many parts ask each one, or how often one does
	numbers map[part]int
	joined  bool // are alike terms one part?
}

// partsOf are the parts of an observable, itself the last one.
func partsOf(c api.Core, joined bool) parts {
	p := parts{numbers: map[part]int{}, joined: joined}
	p.number(c)
	return p
}

// number is the part's that a term is.
func (p *parts) number(c api.Core) int {
	is := part{op: c.Op, n: c.N, s: c.S}
	for i, kid := range c.Kids {
		is.kids[i] = p.number(kid)
	}
	if n, have := p.numbers[is]; have && p.joined {
		return n
	}
	for i := range c.Kids {
		p.askers[is.kids[i]]++
	}
	n := len(p.list)
	p.numbers[is] = n
	p.list, p.askers = append(p.list, is), append(p.askers, 0)
	return n
}

func (p *parts) isAskedAgain(n int) bool { return p.askers[n] > 1 }

func (p *parts) howManyAskedAgain() int {
	count := 0
	for n := range p.list {
		if p.isAskedAgain(n) {
			count++
		}
	}
	return count
}
