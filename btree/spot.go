package btree

// none is the root's page in a tree without pairs.
const none = -1

// span is the keys from one on, below another one (empty: to the end).
type span struct {
	from, to string
}

func (s span) has(key string) bool {
	return s.from <= key && (s.to == "" || key < s.to)
}

// meets: may a key be in both?
func (s span) meets(o span) bool {
	return (s.to == "" || o.from < s.to) && (o.to == "" || s.from < o.to)
}

// spot is where a node lies, and what a tree has there.
type spot struct {
	page  int
	root  bool
	level int // of the root: whichever it says
	span
}

// suits: is a node such as a tree has at the spot?
func (s spot) suits(n node) bool {
	if !s.filled(n) {
		return false
	}
	for i, r := range n.rows {
		if !n.may(r) || !s.has(r.key) {
			return false
		}
		if i > 0 && n.rows[i-1].key >= r.key {
			return false
		}
	}
	return n.level == 0 || n.rows[0].key == s.from
}

// filled: has a node of the spot enough rows? A root above the leaves has two, else its only child would be the root.
func (s spot) filled(n node) bool {
	if s.root {
		return len(n.rows) > min(n.level, 1)
	}
	return n.level == s.level && n.size() >= least
}
