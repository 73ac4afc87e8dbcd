package opt

import (
	"slices"

	"usance/api"
	"usance/date"
	"usance/num"
)

// isReckoned: is it a term that hangs on constants alone, all of which it asks?
func isReckoned(c api.Core) bool {
	return asksAll(c.Op) && !slices.ContainsFunc(c.Kids, isNoConstant)
}

// asksAll: is it an observable's Op that always asks all its kids? (OAnd, OOr and OIf may not: they have rules of their own.)
func asksAll(op int) bool {
	return op == api.ONeg || op == api.ONot || api.OAdd <= op && op <= api.OEq || api.OBefore <= op && op <= api.OYears30
}

func isNoConstant(c api.Core) bool {
	return c.Op != api.ONum && c.Op != api.OBool && c.Op != api.ODate
}

// reckon is the constant that such a term is.
func reckon(c api.Core) api.Core {
	a, b := c.Kids[0].N, c.Kids[len(c.Kids)-1].N // of one kid: both its own
	switch c.Op {
	case api.ONeg:
		return number(num.Neg(a))
	case api.OAdd:
		return number(num.Add(a, b))
	case api.OSub:
		return number(num.Sub(a, b))
	case api.OMul:
		return number(num.Mul(a, b))
	case api.ODiv:
		return number(num.Div(a, b))
	case api.OLt, api.OBefore:
		return truth(a < b)
	case api.OLe:
		return truth(a <= b)
	case api.OEq:
		return truth(a == b)
	case api.ONot:
		return truth(a == 0)
	case api.OPlus:
		return day(date.Plus(int(a), num.Whole(b)))
	case api.OMonths:
		return day(date.Months(int(a), num.Whole(b)))
	case api.OYears:
		return number(date.Years(int(a), int(b)))
	}
	return number(date.Years30(int(a), int(b)))
}

func number(n int64) api.Core { return api.Core{Op: api.ONum, N: n} }

func day(n int) api.Core { return api.Core{Op: api.ODate, N: int64(n)} }

func truth(holds bool) api.Core {
	if holds {
		return api.Core{Op: api.OBool, N: 1}
	}
	return api.Core{Op: api.OBool}
}
