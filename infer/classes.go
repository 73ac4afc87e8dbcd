package infer

// classes keeps which of its members, numbers from 0 on, are one. A class may have a mark; two whose marks are not the same never become one.
type classes[M comparable] struct {
	members []member[M]
}

// member is one of them; what is said of a class stands at the member that leads it.
type member[M comparable] struct {
	up     int // nearer to the leader; the leader's own number
	mark   M
	marked bool
}

// add makes a member that is one with no other.
func (c *classes[M]) add() int {
	i := len(c.members)
	c.members = append(c.members, member[M]{up: i})
	return i
}

// addMarked makes one whose class has a mark.
func (c *classes[M]) addMarked(mark M) int {
	i := c.add()
	c.members[i].mark, c.members[i].marked = mark, true
	return i
}

// leader is the member that leads a member's class.
func (c *classes[M]) leader(i int) int {
	for c.members[i].up != i {
		c.members[i].up = c.members[c.members[i].up].up
		i = c.members[i].up
	}
	return i
}

// markOf is the mark of a member's class, if it has one.
func (c *classes[M]) markOf(i int) (M, bool) {
	l := c.members[c.leader(i)]
	return l.mark, l.marked
}

// join lets two members be one, unless their classes' marks are against it.
func (c *classes[M]) join(a, b int) bool {
	a, b = c.leader(a), c.leader(b)
	if a == b {
		return true
	}
	first, second := &c.members[a], &c.members[b]
	if first.marked && second.marked && first.mark != second.mark {
		return false
	}
	if second.marked {
		first.mark, first.marked = second.mark, true
	}
	second.up = a
	return true
}
