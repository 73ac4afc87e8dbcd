package infer

import "usance/api"

const (
	maxImports  = 100
	lastOfSheet = api.TVar + 15 // the last type that a sheet may have
)

// wantRight fails, unless a module and all sheets are right. What comes behind it relies on that: a tree might else go round in itself.
func wantRight(n api.Node, sheets []api.Sheet) {
	nodes := counter(api.MaxTokens)
	right := nodes.isModule(n)
	for _, s := range sheets {
		right = right && isSheet(s)
	}
	if !right {
		fail(api.ErrInferForm, 0)
	}
}

// isSheet: is it a right sheet?
func isSheet(s api.Sheet) bool {
	right := isFree(s.Name) && len(s.Defs) <= api.MaxDefs
	for i := 0; right && i < len(s.Defs); i++ {
		right = isScheme(s.Defs[i])
	}
	return right
}

// isScheme: is it one of a right sheet?
func isScheme(s api.Scheme) bool {
	right := isFree(s.Name) && len(s.Params) <= api.MaxParams && isType(s.Result)
	for i := 0; right && i < len(s.Params); i++ {
		right = isType(s.Params[i])
	}
	return right
}

func isType(t int) bool { return 0 <= t && t <= lastOfSheet }

// counter is how many nodes there may still be.
type counter int

// counts: is there room for one more node?
func (c *counter) counts() bool {
	*c--
	return *c >= 0
}

// isModule: is it a right module?
func (c *counter) isModule(n api.Node) bool {
	imports := leading(n.Kids, api.NImport)
	if !c.isNamed(n, api.NModule) || imports > maxImports || len(n.Kids)-imports > api.MaxDefs {
		return false
	}
	return c.areAllBare(n.Kids[:imports], api.NImport) && c.areLets(n.Kids[imports:])
}

// areLets: are all of them right Lets?
func (c *counter) areLets(nodes []api.Node) bool {
	for _, n := range nodes {
		if !c.isLet(n) {
			return false
		}
	}
	return true
}

// isLet: is it a right Let?
func (c *counter) isLet(n api.Node) bool {
	params := leading(n.Kids, api.NParam)
	if !c.isNamed(n, api.NLet) || params > api.MaxParams || len(n.Kids) != params+1 {
		return false
	}
	return c.areAllBare(n.Kids[:params], api.NParam) && c.isExpr(n.Kids[params], api.MaxNest)
}

// isExpr: is it a right expression, which may have a depth?
func (c *counter) isExpr(n api.Node, depth int) bool {
	if depth == 0 || !c.counts() || !hasOwn(n) || !hasKids(n) {
		return false
	}
	for _, kid := range n.Kids {
		if !c.isExpr(kid, depth-1) {
			return false
		}
	}
	return true
}

// isNamed: is it a node of a Kind of a module's, with a name of its own?
func (c *counter) isNamed(n api.Node, kind int) bool {
	return c.counts() && n.Kind == kind && n.N == 0 && isFree(n.Text)
}

// areAllBare: are all of them named nodes of a Kind, without kids?
func (c *counter) areAllBare(nodes []api.Node, kind int) bool {
	for _, n := range nodes {
		if !c.isNamed(n, kind) || len(n.Kids) > 0 {
			return false
		}
	}
	return true
}

// leading is how many nodes of a Kind stand first.
func leading(nodes []api.Node, kind int) int {
	for i := range nodes {
		if nodes[i].Kind != kind {
			return i
		}
	}
	return len(nodes)
}
