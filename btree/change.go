package btree

import (
	"slices"

	"usance/api"
)

// change is a Put, or a Delete. It is worked out ahead of its first step: one that can't be done changes nothing.
type change struct {
	t     *Tree
	key   string
	pairs []row // which the key has then
	old   []int // pages of nodes that are laid anew, or are no more
}

// change lets a key have these pairs, of which there is one, or none.
func (t *Tree) change(key string, pairs ...row) api.Errno {
	c := &change{t: t, key: key, pairs: pairs}
	top, e := c.redone(t.top())
	if e != api.OK {
		return e
	}
	if parts := top.parts(""); len(parts) > 1 {
		top = node{level: top.level + 1, rows: parts}
	}
	// One child is left where two were joined, so it is not laid yet.
	if top.level > 0 && len(top.rows) == 1 {
		top = *top.rows[0].kid
	}
	return c.lay(top)
}

// take is a node that will not stay in its page.
func (c *change) take(s spot) (node, api.Errno) {
	if s.page != none {
		c.old = append(c.old, s.page)
	}
	return c.t.load(s)
}

// redone is the node of a spot as the change has it; it may have too much, or too little, for a page.
func (c *change) redone(s spot) (node, api.Errno) {
	n, e := c.take(s)
	if e != api.OK {
		return node{}, e
	}
	if n.level == 0 {
		return n.instead(c.key, c.pairs), api.OK
	}
	at := n.toward(c.key)
	kid, e := c.redone(n.kid(at, s))
	if e != api.OK {
		return node{}, e
	}
	first, behind := at, at+1
	if kid.size() < least {
		first = max(at-1, 0)
		behind = first + 2
		kid, e = c.withNeighbour(kid, at, n, s)
	}
	if e != api.OK {
		return node{}, e
	}
	n.rows = slices.Replace(n.rows, first, behind, kid.parts(n.rows[first].key)...)
	return n, api.OK
}

// withNeighbour is a node's child and the one ahead of it, or, of the first one, the one behind it.
func (c *change) withNeighbour(kid node, at int, n node, s spot) (node, api.Errno) {
	if at == 0 {
		next, e := c.take(n.kid(1, s))
		return kid.joined(next), e
	}
	last, e := c.take(n.kid(at-1, s))
	return last.joined(kid), e
}

// lay lays the tree of a new root. The old nodes' pages are taken first, so that it never has more pages than it had, or will have.
func (c *change) lay(top node) api.Errno {
	if top.news() > len(c.old)+c.t.p.Left() {
		return api.ErrPagerFull
	}
	root := none
	if len(top.rows) > 0 {
		page, e := c.layNode(top)
		if e != api.OK {
			return e
		}
		root = page
	}
	if e := c.t.p.SetRoot(root); e != api.OK {
		return e
	}
	for _, page := range c.old {
		if e := c.t.p.Free(page); e != api.OK {
			return e
		}
	}
	return api.OK
}

// layNode lays a node behind its children, and says where.
func (c *change) layNode(n node) (int, api.Errno) {
	for i, r := range n.rows {
		if r.kid == nil {
			continue
		}
		page, e := c.layNode(*r.kid)
		if e != api.OK {
			return 0, e
		}
		n.rows[i].val = numberText(page)
	}
	page, e := c.page()
	if e != api.OK {
		return 0, e
	}
	return page, c.t.p.Write(page, n.bytes())
}

// page is one for a node: the last old one that is left, so that as a rule a node stays where it was.
func (c *change) page() (int, api.Errno) {
	last := len(c.old) - 1
	if last < 0 {
		return c.t.p.Alloc()
	}
	page := c.old[last]
	c.old = c.old[:last]
	return page, api.OK
}
