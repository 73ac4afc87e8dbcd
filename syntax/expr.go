package syntax

import "usance/api"

// outerExpr reads an expression that stands within no other.
func (r *reader) outerExpr() api.Node {
	return r.expr(1).node
}

// expr reads an Expr; its nest counts it, too. (The rows below are handed the nest of what they stand within.)
func (r *reader) expr(nest int) tree {
	first := r.wantBeginning()
	if nest > maxNest {
		r.fail(api.ErrSyntaxNest, first.at)
	}
	if r.takes("if") {
		return r.ifBehind(first, nest)
	}
	return r.or(nest)
}

// ifBehind reads what stands behind an if.
func (r *reader) ifBehind(word token, nest int) tree {
	test := r.expr(nest + 1)
	r.want("then")
	first := r.expr(nest + 1)
	r.want("else")
	second := r.expr(nest + 1)
	return r.made(api.Node{Kind: api.NIf, At: word.at}, test, first, second)
}

func (r *reader) or(nest int) tree { return r.chain(nest, r.and, "or") }

func (r *reader) and(nest int) tree { return r.chain(nest, r.not, "and") }

func (r *reader) not(nest int) tree { return r.behindWords(nest, r.rel, "not") }

// rel reads a Rel: unlike the other rows of this kind it has no third operand.
func (r *reader) rel(nest int) tree {
	left := r.sum(nest)
	if !r.now().is("<", "<=", "=") {
		return left
	}
	return r.binary(left, nest, r.sum)
}

func (r *reader) sum(nest int) tree { return r.chain(nest, r.prod, "+", "-") }

func (r *reader) prod(nest int) tree { return r.chain(nest, r.unary, "*", "/") }

func (r *reader) unary(nest int) tree { return r.behindWords(nest, r.atom, "-") }

// chain reads operands between which one of some words stands.
func (r *reader) chain(nest int, operand func(int) tree, words ...string) tree {
	left := operand(nest)
	for r.now().is(words...) {
		left = r.binary(left, nest, operand)
	}
	return left
}

// binary reads a sign or a word and the operand at its right.
func (r *reader) binary(left tree, nest int, operand func(int) tree) tree {
	word := r.take()
	right := operand(nest)
	return r.made(api.Node{Kind: api.NBinary, Text: word.text, At: word.at}, left, right)
}

// behindWords reads an operand ahead of which a word may stand, any number of times.
func (r *reader) behindWords(nest int, operand func(int) tree, word string) tree {
	t := r.now()
	if !r.takes(word) {
		return operand(nest)
	}
	if nest+1 > maxNest {
		r.fail(api.ErrSyntaxNest, t.at)
	}
	kid := r.behindWords(nest+1, operand, word)
	return r.made(api.Node{Kind: api.NUnary, Text: t.text, At: t.at}, kid)
}
