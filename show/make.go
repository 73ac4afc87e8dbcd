package show

import (
	"usance/api"
	"usance/date"
	"usance/num"
)

const maxImports = 100

// maker makes writers of right trees' nodes, and none of others'.
type maker struct {
	left int // nodes that there may still be
}

func newMaker() *maker { return &maker{left: api.MaxTokens} }

// counts: is there room for one more node?
func (m *maker) counts() bool {
	m.left--
	return m.left >= 0
}

// outerExpr makes an expression that stands within no other.
func (m *maker) outerExpr(n api.Node) (writer, bool) { return m.expr(n, api.MaxNest) }

// expr makes an expression that may have a depth. (A tree may go round in itself: its depth ends that.)
func (m *maker) expr(n api.Node, depth int) (writer, bool) {
	if depth == 0 || !m.counts() || !hasOwn(n) || !hasKids(n) {
		return nil, false
	}
	var kids []writer
	for _, kid := range n.Kids {
		w, right := m.expr(kid, depth-1)
		if !right {
			return nil, false
		}
		kids = append(kids, w)
	}
	return made(n, kids), true
}

// made is what writes a right expression's node.
func made(n api.Node, kids []writer) writer {
	switch n.Kind {
	case api.NNum:
		return word(num.Show(n.N))
	case api.NDate:
		day, _ := date.Show(int(n.N))
		return word(day)
	case api.NBool:
		return truth(n.N)
	case api.NFeed:
		return quoted("feed", n.Text)
	case api.NCall:
		return list{word(n.Text), kids}
	case api.NPick:
		return list{quoted("pick", n.Text), kids}
	case api.NUnary:
		return unary{ahead(n.Text), kids[0]}
	case api.NBinary:
		return binary{word(n.Text), kids[0], kids[1]}
	case api.NIf:
		return choice{kids[0], kids[1], kids[2]}
	}
	return word(n.Text) // Cur, Name
}

// truth is a Bool's word.
func truth(n int64) word {
	if n == 0 {
		return "false"
	}
	return "true"
}

// quoted is a keyword and a name's bytes in quotes.
func quoted(keyword, text string) word { return word(keyword + ` "` + text + `"`) }

// ahead is a Unary's sign as it stands ahead of its operand: a word needs a blank.
func ahead(sign string) word {
	if isName(sign) {
		return word(sign + " ")
	}
	return word(sign)
}

// module makes a module.
func (m *maker) module(n api.Node) (writer, bool) {
	imports := leading(n.Kids, api.NImport)
	lets := len(n.Kids) - imports
	if !m.isNamed(n, api.NModule) || imports > maxImports || lets > api.MaxDefs {
		return nil, false
	}
	out := rows{row{word("module "), word(n.Text)}}
	for _, kid := range n.Kids[:imports] {
		if !m.isBare(kid, api.NImport) {
			return nil, false
		}
		out = append(out, row{word("import "), word(kid.Text)})
	}
	for _, kid := range n.Kids[imports:] {
		let, right := m.let(kid)
		if !right {
			return nil, false
		}
		out = append(out, let)
	}
	return out, true
}

// let makes a Let.
func (m *maker) let(n api.Node) (writer, bool) {
	params := leading(n.Kids, api.NParam)
	if !m.isNamed(n, api.NLet) || params > api.MaxParams || len(n.Kids) != params+1 {
		return nil, false
	}
	head, right := m.head(n.Text, n.Kids[:params])
	if !right {
		return nil, false
	}
	body, right := m.outerExpr(n.Kids[params])
	if !right {
		return nil, false
	}
	return row{word("let "), head, word(" = "), body}, true
}

// head makes a Let's name and its Params.
func (m *maker) head(name string, params []api.Node) (writer, bool) {
	var names []writer
	for _, p := range params {
		if !m.isBare(p, api.NParam) {
			return nil, false
		}
		names = append(names, word(p.Text))
	}
	if len(names) == 0 {
		return word(name), true
	}
	return list{word(name), names}, true
}

// isNamed: is it a node of a Kind of a module's, with a name of its own?
func (m *maker) isNamed(n api.Node, kind int) bool {
	return m.counts() && n.Kind == kind && n.N == 0 && isFree(n.Text)
}

// isBare: is it one without kids?
func (m *maker) isBare(n api.Node, kind int) bool {
	return m.isNamed(n, kind) && len(n.Kids) == 0
}

// leading is how many nodes of a Kind stand first.
func leading(nodes []api.Node, kind int) int {
	for i := range nodes {
		if nodes[i].Kind != kind {
			return i
		}
	}
	return len(nodes)
}
