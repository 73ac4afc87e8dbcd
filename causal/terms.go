package causal

import (
	"iter"

	"usance/api"
)

// terms goes through a core's terms, a term ahead of its kids, kids in order, each with how deep it stands (the first one: 1). A core that goes round in itself has no end: who asks must leave early.
func terms(c api.Core) iter.Seq2[int, api.Core] {
	return func(yield func(int, api.Core) bool) { walk(c, 1, yield) }
}

// walk goes through a core that stands so deep (false: it was left early).
func walk(c api.Core, depth int, yield func(int, api.Core) bool) bool {
	if !yield(depth, c) {
		return false
	}
	for _, kid := range c.Kids {
		if !walk(kid, depth+1, yield) {
			return false
		}
	}
	return true
}

// ask puts a question to each term of a right core, and to none of any other one.
func ask(c api.Core, question func(api.Core)) {
	if _, right := Type(c); !right {
		return
	}
	for _, term := range terms(c) {
		question(term)
	}
}
