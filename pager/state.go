package pager

import (
	"usance/api"
	"usance/journal"
)

// The journal's blocks are the head's, then those of the pages in their order.
const (
	headBlocks = 2
	pageBlocks = Bytes / journal.Bytes
	mostBlocks = api.MaxSectors/2 - 1
	mostPages  = (mostBlocks - headBlocks) / pageBlocks
)

// none is the root's number where there is no root.
const none = -1

// use is what is done with a page.
type use byte

const (
	free use = iota
	taken
)

// content is a page's bytes.
type content [Bytes]byte

// state is which pages there are, are free, are taken, and the root. It shares nothing with a copy of it, so that an earlier one is kept by being copied.
type state struct {
	pages int
	left  int
	root  int
	uses  [mostPages]use
}

// change is what was done behind a state. What stands in no table is as the state has it.
type change struct {
	begun bool // something was done, even if it comes to what was there
	left  int
	root  int
	uses  table[use]
	bytes table[content] // of none but taken pages
}

// empty is the state that Format leaves.
func empty(pages int) state {
	return state{pages: pages, left: pages, root: none}
}

// unchanged is a change of this state by which nothing is done yet.
func (s state) unchanged() change {
	return change{left: s.left, root: s.root}
}

// with is the state behind a change; the one ahead of it stays as it is.
func (s state) with(c change) state {
	for _, page := range c.uses.pages() {
		s.uses[page], _ = c.uses.get(page)
	}
	s.left, s.root = c.left, c.root
	return s
}

// take lets a page be taken, whose bytes are noughts.
func (c *change) take(page int) {
	c.begun = true
	c.left--
	c.uses.put(page, taken)
	c.bytes.put(page, content{})
}

// giveBack lets a page be free; what was written to it is of no use any more.
func (c *change) giveBack(page int) {
	c.begun = true
	c.left++
	c.uses.put(page, free)
	c.bytes.drop(page)
}

func (c *change) write(page int, b content) {
	c.begun = true
	c.bytes.put(page, b)
}

func (c *change) setRoot(page int) {
	c.begun = true
	c.root = page
}
