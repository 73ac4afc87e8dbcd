package syntax

import "usance/api"

// atom reads an Atom.
func (r *reader) atom(nest int) tree {
	t := r.take()
	switch t.kind {
	case kindNumber:
		return r.made(api.Node{Kind: api.NNum, N: t.n, At: t.at})
	case kindDate:
		return r.made(api.Node{Kind: api.NDate, N: t.n, At: t.at})
	case kindCurrency:
		return r.made(api.Node{Kind: api.NCur, Text: t.text, At: t.at})
	case kindName, kindFar:
		return r.use(t, nest)
	}
	switch {
	case t.is("true"):
		return r.made(api.Node{Kind: api.NBool, N: 1, At: t.at})
	case t.is("false"):
		return r.made(api.Node{Kind: api.NBool, At: t.at})
	case t.is("feed"):
		return r.made(api.Node{Kind: api.NFeed, Text: r.wantKind(kindString).text, At: t.at})
	case t.is("pick"):
		return r.pickBehind(t, nest)
	case t.is("("):
		return r.closed(nest)
	}
	r.fail(api.ErrSyntaxToken, t.at)
	return tree{}
}

// use reads what stands behind a name: the arguments of a Call, or nothing.
func (r *reader) use(name token, nest int) tree {
	if !r.takes("(") {
		return r.made(api.Node{Kind: api.NName, Text: name.text, At: name.at})
	}
	args := r.args(nest)
	return r.made(api.Node{Kind: api.NCall, Text: name.text, At: name.at}, args...)
}

// args reads a Call's arguments, behind their parenthesis.
func (r *reader) args(nest int) []tree {
	var out []tree
	for more := true; more; more = r.takes(",") {
		first := r.wantBeginning()
		if len(out) == api.MaxParams {
			r.fail(api.ErrSyntaxMany, first.at)
		}
		out = append(out, r.expr(nest+1))
	}
	r.want(")")
	return out
}

// pickBehind reads what stands behind a pick.
func (r *reader) pickBehind(word token, nest int) tree {
	label := r.wantKind(kindString)
	r.want("(")
	day := r.expr(nest + 1)
	r.want(",")
	first := r.expr(nest + 1)
	r.want(",")
	second := r.expr(nest + 1)
	r.want(")")
	return r.made(api.Node{Kind: api.NPick, Text: label.text, At: word.at}, day, first, second)
}

// closed reads an expression in parentheses, behind the first one; they make no node.
func (r *reader) closed(nest int) tree {
	inner := r.expr(nest + 1)
	r.want(")")
	return inner
}
