package elab

import "usance/api"

// builtIn is what a name stands for that is neither a parameter nor a definition.
func builtIn(name string) meaning {
	switch name {
	case "now":
		return meaning{become: func([]made) (made, api.Errno) { return leaf(api.ONow, 0, ""), api.OK }}
	case "zero":
		return meaning{become: func([]made) (made, api.Errno) { return leaf(api.CZero, 0, ""), api.OK }}
	case "one":
		return meaning{become: func(args []made) (made, api.Errno) { return leaf(api.COne, 0, args[0].s), api.OK }}
	case "at":
		return meaning{become: func(args []made) (made, api.Errno) { return dated(api.CAt, "", args) }}
	case "when":
		return meaning{become: func(args []made) (made, api.Errno) { return dated(api.CWhen, "", args) }}
	case "ago":
		return meaning{become: ago}
	}
	return meaning{become: func(args []made) (made, api.Errno) { return tree(builtInOp(name), 0, "", args) }}
}

// builtInOp is the Op of what makes a term of just its arguments.
func builtInOp(name string) int {
	switch name {
	case "give":
		return api.CGive
	case "scale":
		return api.CScale
	case "both":
		return api.CBoth
	case "plus":
		return api.OPlus
	case "months":
		return api.OMonths
	case "years":
		return api.OYears
	case "years30":
		return api.OYears30
	}
	return api.OBefore
}

// ago is its second argument, so many days earlier. The days are asked for even if nothing hangs on them.
func ago(args []made) (made, api.Errno) {
	number, e := args[0].constant()
	if e != api.OK {
		return made{}, e
	}
	days := number / api.One
	if number%api.One != 0 || !isLag(days) {
		return made{}, api.ErrElabConst
	}
	return args[1].earlier(days)
}

// isLag: may a term look so many days back?
func isLag(days int64) bool { return -api.MaxLag <= days && days <= api.MaxLag }
