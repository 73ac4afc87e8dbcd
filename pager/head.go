package pager

import "usance/journal"

// sign stands at both ends of a head, so that none is taken for one of which a block is something else.
const sign = "usance: a pager\n"

// Where a head's parts stand. A number takes two bytes, a page's use one bit.
const (
	pagesAt = len(sign)
	rootAt  = pagesAt + 2
	usesAt  = rootAt + 2
	endAt   = headBlocks*journal.Bytes - len(sign)
)

// head is a state as it stands in the journal. It is an array, so that two are compared by all that they hold.
type head [headBlocks * journal.Bytes]byte

// head lays a state. The root's number is laid as one more, so that that of none is no exception.
func (s state) head() head {
	var h head
	copy(h[:], sign)
	copy(h[endAt:], sign)
	h.putNumber(pagesAt, s.pages)
	h.putNumber(rootAt, s.root+1)
	for page := range s.pages {
		h[usesAt+page/8] |= byte(s.uses[page]) << (page % 8)
	}
	return h
}

// state reads a pager of so many pages, if a head is as one is laid, to the last byte.
func (h head) state(pages int) (state, bool) {
	s := empty(pages)
	s.root = h.number(rootAt) - 1
	for page := range pages {
		s.uses[page] = use(h[usesAt+page/8] >> (page % 8) & 1)
		if s.uses[page] == taken {
			s.left--
		}
	}
	if !s.rooted() || s.head() != h {
		return state{}, false
	}
	return s, true
}

// rooted: is the root none, or a page that is taken?
func (s *state) rooted() bool {
	return s.root == none || s.root < s.pages && s.uses[s.root] == taken
}

func (h *head) putNumber(at, n int) {
	h[at], h[at+1] = byte(n>>8), byte(n)
}

func (h head) number(at int) int {
	return int(h[at])<<8 | int(h[at+1])
}
