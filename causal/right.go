package causal

import (
	"slices"

	"usance/api"
)

// isOf: is it a right core term of a type?
func isOf(c api.Core, want int) bool {
	fits := fitting(want)
	for depth, term := range terms(c) {
		if !fits(depth, term) {
			return false
		}
	}
	return true
}

// fitting is what is asked of each term of a core that is to be of a type, in order: may it stand there? What is wanted of a term hangs on those ahead of it alone, so that no term's kids are gone into ahead of its own answer.
func fitting(want int) func(depth int, c api.Core) bool {
	wanted := []int{want} // the types of the terms to come, the next one's last
	size := 0
	return func(depth int, c api.Core) bool {
		size++
		next := len(wanted) - 1
		kids, is := kidsOf(c.Op, wanted[next])
		if !is || len(c.Kids) != len(kids) || !hasOwn(c) || size > api.MaxCore || depth > api.MaxDeep {
			return false
		}
		slices.Reverse(kids)
		wanted = append(wanted[:next], kids...)
		return true
	}
}

// kidsOf are the types of an Op's kids, if a term of that Op may be of a type.
func kidsOf(op, want int) ([]int, bool) {
	switch {
	case want == api.TContract:
		return kidsOfContract(op)
	case op == api.OIf:
		return []int{api.TBool, want, want}, true
	case want == api.TNum:
		return kidsOfNumber(op)
	case want == api.TBool:
		return kidsOfTruth(op)
	}
	return kidsOfDay(op)
}

func kidsOfNumber(op int) ([]int, bool) {
	switch op {
	case api.ONum, api.OFeed:
		return nil, true
	case api.ONeg:
		return []int{api.TNum}, true
	case api.OAdd, api.OSub, api.OMul, api.ODiv:
		return []int{api.TNum, api.TNum}, true
	case api.OYears, api.OYears30:
		return []int{api.TDate, api.TDate}, true
	}
	return nil, false
}

func kidsOfTruth(op int) ([]int, bool) {
	switch op {
	case api.OBool:
		return nil, true
	case api.OLt, api.OLe, api.OEq:
		return []int{api.TNum, api.TNum}, true
	case api.ONot:
		return []int{api.TBool}, true
	case api.OAnd, api.OOr:
		return []int{api.TBool, api.TBool}, true
	case api.OBefore:
		return []int{api.TDate, api.TDate}, true
	}
	return nil, false
}

func kidsOfDay(op int) ([]int, bool) {
	switch op {
	case api.ODate, api.ONow:
		return nil, true
	case api.OPlus, api.OMonths:
		return []int{api.TDate, api.TNum}, true
	}
	return nil, false
}

func kidsOfContract(op int) ([]int, bool) {
	switch op {
	case api.CZero, api.COne:
		return nil, true
	case api.CGive, api.CAt:
		return []int{api.TContract}, true
	case api.CScale:
		return []int{api.TNum, api.TContract}, true
	case api.CBoth, api.CPick:
		return []int{api.TContract, api.TContract}, true
	case api.CIf:
		return []int{api.TBool, api.TContract, api.TContract}, true
	case api.CWhen:
		return []int{api.TBool, api.TContract}, true
	}
	return nil, false
}
