package denote

import (
	"usance/api"
	"usance/date"
	"usance/num"
)

// reckon is what an Op makes of its kids' values (of one kid: a).
func reckon(op int, a, b int64) int64 {
	switch op {
	case api.ONeg:
		return num.Neg(a)
	case api.OAdd:
		return num.Add(a, b)
	case api.OSub:
		return num.Sub(a, b)
	case api.OMul:
		return num.Mul(a, b)
	case api.ODiv:
		return num.Div(a, b)
	case api.OLt, api.OBefore:
		return truth(a < b)
	case api.OLe:
		return truth(a <= b)
	case api.OEq:
		return truth(a == b)
	case api.ONot:
		return truth(a == 0)
	case api.OPlus:
		return int64(date.Plus(int(a), num.Whole(b)))
	case api.OMonths:
		return int64(date.Months(int(a), num.Whole(b)))
	case api.OYears:
		return date.Years(int(a), int(b))
	}
	return date.Years30(int(a), int(b))
}

// truth is a truth's number.
func truth(is bool) int64 {
	if is {
		return 1
	}
	return 0
}
