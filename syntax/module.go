package syntax

import "usance/api"

// module reads a Module.
func (r *reader) module() api.Node {
	n := api.Node{Kind: api.NModule, At: r.now().at}
	r.want("module")
	n.Text = r.wantKind(kindName).text
	r.want(";")
	n.Kids = r.rowsFrom("import", maxImports, r.importRow)
	n.Kids = append(n.Kids, r.rowsFrom("let", api.MaxDefs, r.letRow)...)
	return n
}

// rowsFrom reads rows, one behind the other, that begin with a word.
func (r *reader) rowsFrom(word string, most int, row func() api.Node) []api.Node {
	var out []api.Node
	for r.now().is(word) {
		if len(out) == most {
			r.fail(api.ErrSyntaxMany, r.now().at)
			return nil
		}
		out = append(out, row())
	}
	return out
}

func (r *reader) importRow() api.Node {
	r.want("import")
	name := r.wantKind(kindName)
	r.want(";")
	return api.Node{Kind: api.NImport, Text: name.text, At: name.at}
}

// letRow reads a Let.
func (r *reader) letRow() api.Node {
	r.want("let")
	name := r.wantKind(kindName)
	var kids []api.Node
	if r.takes("(") {
		kids = r.params()
	}
	r.want("=")
	kids = append(kids, r.outerExpr())
	r.want(";")
	return api.Node{Kind: api.NLet, Text: name.text, Kids: kids, At: name.at}
}

// params reads a Let's Params, behind their parenthesis.
func (r *reader) params() []api.Node {
	var out []api.Node
	for more := true; more; more = r.takes(",") {
		name := r.wantKind(kindName)
		if len(out) == api.MaxParams {
			r.fail(api.ErrSyntaxMany, name.at)
		}
		out = append(out, api.Node{Kind: api.NParam, Text: name.text, At: name.at})
	}
	r.want(")")
	return out
}
