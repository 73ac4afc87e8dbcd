package infer

import "usance/api"

// definition is a Let whose types are being found. Types are members of its classes: those below TVar are the fixed types themselves, the others are variables.
type definition struct {
	known  map[string]api.Scheme
	params map[string]int // a parameter's type
	order  []int          // these, in order
	types  classes[int]
}

// newDefinition has its parameters, each with a variable of its own.
func newDefinition(known map[string]api.Scheme, params []api.Node) *definition {
	d := &definition{known: known, params: map[string]int{}}
	for t := range api.TVar {
		d.types.addMarked(t)
	}
	for _, p := range params {
		if _, twice := d.params[p.Text]; twice {
			fail(api.ErrInferTwice, p.At)
		}
		d.params[p.Text] = d.types.add()
		d.order = append(d.order, d.params[p.Text])
	}
	return d
}

// typeOf is an expression's type, by all that is known so far.
func (d *definition) typeOf(n api.Node) int {
	kids, result := d.use(n)
	for i, kid := range n.Kids {
		if !d.types.join(d.typeOf(kid), kids[i]) {
			fail(api.ErrInferType, kid.At)
		}
	}
	return result
}

// use is which types a node's kids must have, and which it has itself.
func (d *definition) use(n api.Node) ([]int, int) {
	if n.Kind != api.NName && n.Kind != api.NCall {
		return d.instance(formScheme(n))
	}
	if param, is := d.params[n.Text]; is {
		wantKids(n, 0)
		return nil, param
	}
	s, is := d.known[n.Text]
	if !is {
		fail(api.ErrInferName, n.At)
	}
	wantKids(n, len(s.Params))
	return d.instance(s)
}

// wantKids fails, unless a use has as many arguments as what it means has parameters.
func wantKids(n api.Node, params int) {
	if len(n.Kids) != params {
		fail(api.ErrInferArgs, n.At)
	}
}

// instance is a scheme with variables of its own.
func (d *definition) instance(s api.Scheme) ([]int, int) {
	own := map[int]int{}
	put := func(t int) int {
		if t < api.TVar {
			return t
		}
		v, is := own[t]
		if !is {
			v = d.types.add()
			own[t] = v
		}
		return v
	}
	var params []int
	for _, p := range s.Params {
		params = append(params, put(p))
	}
	return params, put(s.Result)
}

// scheme is what was found: its variables count from TVar on, as they first stand in it.
func (d *definition) scheme(name string, result int) api.Scheme {
	numbers := map[int]int{}
	put := func(t int) int {
		if fixed, is := d.types.markOf(t); is {
			return fixed
		}
		class := d.types.leader(t)
		v, is := numbers[class]
		if !is {
			v = api.TVar + len(numbers)
			numbers[class] = v
		}
		return v
	}
	out := api.Scheme{Name: name}
	for _, p := range d.order {
		out.Params = append(out.Params, put(p))
	}
	out.Result = put(result)
	return out
}
