package btree

import (
	"slices"
	"sort"
)

// row is a pair of a leaf; above the leaves a child, by the key from which on its pairs stand.
type row struct {
	key string
	val string // a child's: its page's number
	kid *node  // a child that is not laid yet: val keeps its number's room
}

// node is rows by rising keys.
type node struct {
	level int // how many lie below it: a leaf's is 0
	rows  []row
}

// size is how many bytes of a page a row takes, or all of a node's.
func (r row) size() int {
	return rowBytes + len(r.key) + len(r.val)
}

func (n node) size() int {
	sum := 0
	for _, r := range n.rows {
		sum += r.size()
	}
	return sum
}

// may: is a row one that a node of this level has?
func (n node) may(r row) bool {
	if n.level > 0 {
		return len(r.key) <= MaxKey && len(r.val) == numberBytes
	}
	return len(r.key) <= MaxKey && len(r.val) <= MaxValue
}

// find is how many keys are below one, and whether that is the next.
func (n node) find(key string) (int, bool) {
	at := sort.Search(len(n.rows), func(i int) bool { return n.rows[i].key >= key })
	return at, at < len(n.rows) && n.rows[at].key == key
}

// toward is the row of the child that a key belongs to. (The first row's key is where the node begins, so there is one.)
func (n node) toward(key string) int {
	at, is := n.find(key)
	if is {
		return at
	}
	return at - 1
}

// kid is the spot of the child in a row of a node that lies at a spot, kids all of them (of a leaf none).
func (n node) kid(at int, s spot) spot {
	to := s.to
	if at+1 < len(n.rows) {
		to = n.rows[at+1].key
	}
	return spot{page: numberOf(n.rows[at].val), level: n.level - 1, span: span{n.rows[at].key, to}}
}

func (n node) kids(s spot) []spot {
	if n.level == 0 {
		return nil
	}
	out := make([]spot, len(n.rows))
	for at := range out {
		out[at] = n.kid(at, s)
	}
	return out
}

// hand hands the pairs of a span on, if the node is a leaf, and says whether more are asked for.
func (n node) hand(want span, yield func(string, string) bool) bool {
	if n.level > 0 {
		return true
	}
	for _, r := range n.rows {
		if want.has(r.key) && !yield(r.key, r.val) {
			return false
		}
	}
	return true
}

// instead is a leaf in which a key has these pairs, of which there is one, or none.
func (n node) instead(key string, pairs []row) node {
	at, has := n.find(key)
	behind := at
	if has {
		behind++
	}
	return node{rows: slices.Replace(n.rows, at, behind, pairs...)}
}

// joined is a node with the rows of one behind it.
func (n node) joined(next node) node {
	return node{level: n.level, rows: slices.Concat(n.rows, next.rows)}
}

// parts is a node that begins at a key as rows of the one above it: itself, or two, if it has too much for a page.
func (n node) parts(from string) []row {
	if n.size() <= room {
		return []row{unlaid(from, n)}
	}
	at := n.middle()
	first, second := node{n.level, n.rows[:at]}, node{n.level, n.rows[at:]}
	return []row{unlaid(from, first), unlaid(n.rows[at].key, second)}
}

// middle is how many rows the first of two parts has that differ by no more than one row takes.
func (n node) middle() int {
	more := n.size() // by how much what is behind is more than what is ahead
	for at, r := range n.rows {
		if more <= r.size() {
			return at
		}
		more -= 2 * r.size()
	}
	return len(n.rows)
}

// unlaid is the row of a child that has no page yet.
func unlaid(from string, n node) row {
	return row{key: from, val: numberText(0), kid: &n}
}

// news is how many nodes are to be laid with one, itself too.
func (n node) news() int {
	count := 1
	for _, r := range n.rows {
		if r.kid != nil {
			count += r.kid.news()
		}
	}
	return count
}
