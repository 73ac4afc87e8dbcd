package elab

import (
	"usance/api"
	"usance/date"
	"usance/num"
)

// valueOf is what a term of constants is on any day.
func valueOf(op int, kids []made) int64 {
	a := kids[0].value
	switch op {
	case api.ONeg:
		return num.Neg(a)
	case api.ONot:
		return 1 - a
	case api.OIf:
		if a == 0 {
			return kids[2].value
		}
		return kids[1].value
	}
	return valueOfTwo(op, a, kids[1].value)
}

// valueOfTwo is what a term of two constants is.
func valueOfTwo(op int, a, b int64) int64 {
	switch op {
	case api.OAdd:
		return num.Add(a, b)
	case api.OSub:
		return num.Sub(a, b)
	case api.OMul:
		return num.Mul(a, b)
	case api.ODiv:
		return num.Div(a, b)
	case api.OPlus:
		return int64(date.Plus(int(a), num.Whole(b)))
	case api.OMonths:
		return int64(date.Months(int(a), num.Whole(b)))
	case api.OYears:
		return date.Years(int(a), int(b))
	case api.OYears30:
		return date.Years30(int(a), int(b))
	}
	return truth(holds(op, a, b))
}

// holds: is a term of two constants true?
func holds(op int, a, b int64) bool {
	switch op {
	case api.OAnd:
		return a == 1 && b == 1
	case api.OOr:
		return a == 1 || b == 1
	case api.OLe:
		return a <= b
	case api.OEq:
		return a == b
	}
	return a < b // OLt, OBefore
}

func truth(is bool) int64 {
	if is {
		return 1
	}
	return 0
}
