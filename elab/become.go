package elab

import "usance/api"

// become is what an expression becomes, its kids first.
func become(n api.Node, names scope) (made, api.Errno) {
	kids := make([]made, len(n.Kids))
	for i, kid := range n.Kids {
		var e api.Errno
		if kids[i], e = become(kid, names); e != api.OK {
			return made{}, e
		}
	}
	if isUse(n) {
		return names(n.Text).become(kids)
	}
	return form(n, kids)
}

// form is what a node becomes that is neither a Name nor a Call.
func form(n api.Node, kids []made) (made, api.Errno) {
	switch n.Kind {
	case api.NNum:
		return leaf(api.ONum, n.N, ""), api.OK
	case api.NBool:
		return leaf(api.OBool, n.N, ""), api.OK
	case api.NDate:
		return leaf(api.ODate, n.N, ""), api.OK
	case api.NFeed:
		return leaf(api.OFeed, 0, n.Text), api.OK
	case api.NUnary:
		return tree(unaryOp(n.Text), 0, "", kids)
	case api.NBinary:
		return tree(binaryOp(n.Text), 0, "", kids)
	case api.NIf:
		return choose(kids)
	case api.NPick:
		return dated(api.CPick, n.Text, kids)
	}
	return currency(n.Text), api.OK
}

// choose is what an If becomes. Of currencies no term is made: which one it is must be known at once.
func choose(kids []made) (made, api.Errno) {
	switch {
	case kids[1].isContract():
		return tree(api.CIf, 0, "", kids)
	case !kids[1].isCurrency():
		return tree(api.OIf, 0, "", kids)
	}
	truth, e := kids[0].constant()
	if e != api.OK {
		return made{}, e
	}
	if truth == 0 {
		return kids[2], api.OK
	}
	return kids[1], api.OK
}

// dated is a contract that has its first kid, a constant day, as N.
func dated(op int, label string, kids []made) (made, api.Errno) {
	day, e := kids[0].constant()
	if e != api.OK {
		return made{}, e
	}
	return tree(op, day, label, kids[1:])
}

func unaryOp(sign string) int {
	if sign == "not" {
		return api.ONot
	}
	return api.ONeg
}

func binaryOp(sign string) int {
	switch sign {
	case "or":
		return api.OOr
	case "and":
		return api.OAnd
	case "<":
		return api.OLt
	case "<=":
		return api.OLe
	case "=":
		return api.OEq
	case "+":
		return api.OAdd
	case "-":
		return api.OSub
	case "*":
		return api.OMul
	}
	return api.ODiv
}
