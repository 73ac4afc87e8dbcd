package elab

import (
	"strings"

	"usance/api"
	"usance/infer"
)

// program is what typed modules define.
type program struct {
	last string                // the last module's name
	defs map[string]definition // by far names
}

// definition is what its name stands for, and its types.
type definition struct {
	meaning
	scheme api.Scheme
}

// newProgram is that of modules, if they are one. What comes behind it relies on that: all trees are right, and each name in them means something of the type that is asked for.
func newProgram(mods []api.Node) (program, bool) {
	p := program{defs: map[string]definition{}}
	if len(mods) > api.MaxMods {
		return program{}, false
	}
	var sheets []api.Sheet
	for _, m := range mods {
		s, _, e := infer.Module(m, sheets)
		if e != api.OK || isTaken(s.Name, sheets) {
			return program{}, false
		}
		sheets = append(sheets, s)
		p.add(m, s)
		p.last = s.Name
	}
	return p, len(mods) > 0
}

// isTaken: is it the name of one of these sheets?
func isTaken(name string, sheets []api.Sheet) bool {
	for _, s := range sheets {
		if s.Name == name {
			return true
		}
	}
	return false
}

// add lets a typed module's definitions be found.
func (p program) add(m api.Node, s api.Sheet) {
	near := p.names(m.Text)
	imports := len(m.Kids) - len(s.Defs)
	for i, let := range m.Kids[imports:] {
		p.defs[farName(m.Text, let.Text)] = definition{define(let, near), s.Defs[i]}
	}
}

// entry is the definition that a name from outside asks for, if it makes a contract.
func (p program) entry(name string) (definition, bool) {
	d, is := p.defs[farName(p.last, name)]
	return d, is && d.scheme.Result == api.TContract
}

// names finds what names stand for in a module, outside its definitions. (Which definitions stand ahead, and which modules are imported, infer has seen to.)
func (p program) names(module string) scope {
	return func(name string) meaning {
		if d, is := p.defs[farName(module, name)]; is {
			return d.meaning
		}
		return builtIn(name)
	}
}

// farName is a name with its module's, if it has none yet.
func farName(module, name string) string {
	if strings.Contains(name, ".") {
		return name
	}
	return module + "." + name
}
