package opt

import "usance/api"

// rule is what a pass makes of the terms that it fits. Both are asked of right terms, which have all kids that their Ops want.
type rule struct {
	pass    int
	fits    func(api.Core) bool
	becomes func(api.Core) api.Core
}

// rules are those of all passes, in the chapter's order.
func rules() []rule {
	return []rule{
		{api.PassFold, isReckoned, reckon},
		{api.PassLaws, is(api.ONeg, is(api.ONeg)), part(0, 0)},
		{api.PassLaws, is(api.ONot, is(api.ONot)), part(0, 0)},
		{api.PassLaws, is(api.OAdd, isAny, isNought), part(0)},
		{api.PassLaws, is(api.OAdd, isNought), part(1)},
		{api.PassLaws, is(api.OSub, isAny, isNought), part(0)},
		{api.PassLaws, is(api.OMul, isAny, isUnit), part(0)},
		{api.PassLaws, is(api.OMul, isUnit), part(1)},
		{api.PassLaws, is(api.ODiv, isAny, isUnit), part(0)},
		{api.PassLaws, is(api.OAnd, isTrue), part(1)},
		{api.PassLaws, is(api.OAnd, isAny, isTrue), part(0)},
		{api.PassLaws, is(api.OOr, isFalse), part(1)},
		{api.PassLaws, is(api.OOr, isAny, isFalse), part(0)},
		{api.PassLaws, is(api.OAnd, isFalse), part(0)},
		{api.PassLaws, is(api.OOr, isTrue), part(0)},
		{api.PassLaws, is(api.CGive, is(api.CGive)), part(0, 0)},
		{api.PassLaws, is(api.CGive, is(api.CZero)), part(0)},
		{api.PassLaws, is(api.CBoth, is(api.CZero)), part(1)},
		{api.PassLaws, is(api.CBoth, isAny, is(api.CZero)), part(0)},
		{api.PassLaws, is(api.CScale, isUnit), part(1)},
		{api.PassLaws, is(api.CScale, is(api.ONum), is(api.CZero)), part(1)},
		{api.PassLaws, is(api.CAt, is(api.CAt)), onLaterDay},
		{api.PassBranch, is(api.OIf, isTrue), part(1)},
		{api.PassBranch, is(api.CIf, isTrue), part(1)},
		{api.PassBranch, is(api.OIf, isFalse), part(2)},
		{api.PassBranch, is(api.CIf, isFalse), part(2)},
		{api.PassBranch, is(api.CWhen, isFalse, isNot(api.CZero)), emptied},
	}
}

// is asks for terms of an Op whose first kids are as asked; the others may be any.
func is(op int, kids ...func(api.Core) bool) func(api.Core) bool {
	return func(c api.Core) bool {
		if c.Op != op {
			return false
		}
		for i, isAsked := range kids {
			if !isAsked(c.Kids[i]) {
				return false
			}
		}
		return true
	}
}

func isNot(op int) func(api.Core) bool {
	return func(c api.Core) bool { return c.Op != op }
}

func isAny(api.Core) bool { return true }

func isNought(c api.Core) bool { return c.Op == api.ONum && c.N == 0 }

func isUnit(c api.Core) bool { return c.Op == api.ONum && c.N == api.One }

func isTrue(c api.Core) bool { return c.Op == api.OBool && c.N == 1 }

func isFalse(c api.Core) bool { return c.Op == api.OBool && c.N == 0 }

// part takes what stands within a term: of the kids the first of those places, of its kids the next one ..
func part(places ...int) func(api.Core) api.Core {
	return func(c api.Core) api.Core {
		for _, place := range places {
			c = c.Kids[place]
		}
		return c
	}
}

// onLaterDay makes one CAt of two.
func onLaterDay(c api.Core) api.Core {
	kid := c.Kids[0]
	return api.Core{Op: api.CAt, N: max(c.N, kid.N), Kids: kid.Kids}
}

// emptied is a CWhen without its contract. It stays itself, since it waits till its day is past.
func emptied(c api.Core) api.Core {
	return api.Core{Op: api.CWhen, N: c.N, Kids: []api.Core{c.Kids[0], {Op: api.CZero}}}
}
