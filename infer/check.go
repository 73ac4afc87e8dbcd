package infer

import "usance/api"

// checker goes through a right module, and knows what its names mean so far.
type checker struct {
	known map[string]api.Scheme // by a name, or a far name: no name has a point
}

// newChecker knows what is built in.
func newChecker() *checker {
	c := &checker{known: map[string]api.Scheme{}}
	for _, s := range builtIn() {
		c.known[s.Name] = s
	}
	return c
}

// sheet is that of a right module.
func (c *checker) sheet(n api.Node, sheets []api.Sheet) api.Sheet {
	imports := leading(n.Kids, api.NImport)
	c.imports(n.Text, n.Kids[:imports], sheets)
	out := api.Sheet{Name: n.Text}
	for _, let := range n.Kids[imports:] {
		s := c.let(let)
		c.known[s.Name] = s
		out.Defs = append(out.Defs, s)
	}
	return out
}

// imports lets what the imported sheets define be known.
func (c *checker) imports(own string, imports []api.Node, sheets []api.Sheet) {
	taken := map[string]struct{}{own: {}}
	for _, n := range imports {
		if _, twice := taken[n.Text]; twice {
			fail(api.ErrInferTwice, n.At)
		}
		taken[n.Text] = struct{}{}
		c.far(sheetOf(n, sheets))
	}
}

// sheetOf is the first sheet that has an Import's name.
func sheetOf(n api.Node, sheets []api.Sheet) api.Sheet {
	for _, s := range sheets {
		if s.Name == n.Text {
			return s
		}
	}
	fail(api.ErrInferImport, n.At)
	return api.Sheet{}
}

// far lets what a sheet defines be known by far names; of several definitions of one name the first one counts.
func (c *checker) far(sheet api.Sheet) {
	for _, s := range sheet.Defs {
		name := sheet.Name + "." + s.Name
		if _, taken := c.known[name]; !taken {
			c.known[name] = s
		}
	}
}

// let is a Let's most general scheme.
func (c *checker) let(n api.Node) api.Scheme {
	if _, twice := c.known[n.Text]; twice {
		fail(api.ErrInferTwice, n.At)
	}
	last := len(n.Kids) - 1
	d := newDefinition(c.known, n.Kids[:last])
	result := d.typeOf(n.Kids[last])
	return d.scheme(n.Text, result)
}
