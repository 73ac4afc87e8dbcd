package elab

import "usance/api"

// meaning is what a name stands for: what it becomes with what its arguments became, and the work of that.
type meaning struct {
	become func(args []made) (made, api.Errno)
	work   int
}

// scope finds what a name stands for.
type scope func(name string) meaning

// define is what a Let's name stands for, in a module whose other names are near.
func define(let api.Node, near scope) meaning {
	last := len(let.Kids) - 1
	params, body := let.Kids[:last], let.Kids[last]
	return meaning{
		become: func(args []made) (made, api.Errno) { return become(body, near.within(params, args)) },
		work:   work(body, near.within(params, nil)),
	}
}

// within is a scope with parameters ahead of it. (Of those that stand for no arguments just the work may be asked.)
func (s scope) within(params []api.Node, args []made) scope {
	return func(name string) meaning {
		for i, p := range params {
			if p.Text == name {
				return meaning{become: func([]made) (made, api.Errno) { return args[i], api.OK }}
			}
		}
		return s(name)
	}
}

// work is an expression's. One above the limit stands for all that are: the true one may have a thousand digits.
func work(n api.Node, names scope) int {
	sum := 1
	if isUse(n) {
		sum += names(n.Text).work
	}
	for _, kid := range n.Kids {
		sum += work(kid, names)
	}
	return min(sum, api.MaxWork+1)
}

// isUse: is it a node that a name gives its meaning?
func isUse(n api.Node) bool { return n.Kind == api.NName || n.Kind == api.NCall }
