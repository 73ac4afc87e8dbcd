package syntax

import "usance/api"

const (
	maxImports = 100
	maxNest    = 300 // of expressions, nots and unary signs within one another
)

// reader reads a text's tokens by the rows, up to the first fault.
type reader struct {
	tokens []token // the end is the last one
	next   int
	fault  fault
}

// tree is an expression's node and its depth.
type tree struct {
	node  api.Node
	depth int
}

// fail keeps the first fault and goes to the end, where nothing more is found.
func (r *reader) fail(what api.Errno, at int) {
	if r.fault.what == api.OK {
		r.fault = fault{what, at}
	}
	r.next = len(r.tokens) - 1
}

// now is the token that comes next.
func (r *reader) now() token { return r.tokens[r.next] }

// take reads the token that comes next; the end stays.
func (r *reader) take() token {
	t := r.now()
	if t.kind != kindEnd {
		r.next++
	}
	return t
}

// takes reads a keyword or a sign, if it comes next.
func (r *reader) takes(word string) bool {
	if !r.now().is(word) {
		return false
	}
	r.next++
	return true
}

// want reads a keyword or a sign, which must come next.
func (r *reader) want(word string) {
	if !r.takes(word) {
		r.fail(api.ErrSyntaxToken, r.now().at)
	}
}

// wantKind reads a token of a kind, which must come next.
func (r *reader) wantKind(k kind) token {
	t := r.take()
	if t.kind != k {
		r.fail(api.ErrSyntaxToken, t.at)
	}
	return t
}

// wantBeginning looks, without reading it, for a token with which an expression may begin.
func (r *reader) wantBeginning() token {
	t := r.now()
	if !t.beginsExpr() {
		r.fail(api.ErrSyntaxToken, t.at)
	}
	return t
}

// made is a tree of a node and its kids, which may be too deep.
func (r *reader) made(n api.Node, kids ...tree) tree {
	depth := 0
	for _, k := range kids {
		n.Kids = append(n.Kids, k.node)
		depth = max(depth, k.depth)
	}
	depth++
	if depth > api.MaxNest {
		r.fail(api.ErrSyntaxNest, n.At)
	}
	return tree{n, depth}
}
