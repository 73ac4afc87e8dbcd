package btree

import (
	"strings"

	"usance/pager"
)

// A page has its node's level, how many rows it has, these, and noughts behind. A row is how long its key and its value are, and both.
const (
	headBytes   = 1 + numberBytes
	rowBytes    = 2
	numberBytes = 2 // of how many rows there are, and of a page's number
	room        = pager.Bytes - headBytes
	mostRow     = rowBytes + MaxKey + MaxValue
)

// least is how much a node has that is not the root. So much each of two parts has, when a node has too much for its page, since they differ by a row at most. A child's row takes less than a third of it: so a node above the leaves has four children or more, and all nodes together are at most 4/3 of the leaves, and the root; those the chapter's promise of room allows.
const least = (room + 1 - mostRow) / 2

// bytes is a node as its page has it.
func (n node) bytes() []byte {
	out := make([]byte, 0, pager.Bytes)
	out = append(out, byte(n.level))
	out = append(out, numberText(len(n.rows))...)
	for _, r := range n.rows {
		out = append(out, byte(len(r.key)), byte(len(r.val)))
		out = append(out, r.key...)
		out = append(out, r.val...)
	}
	return out[:pager.Bytes]
}

// nodeOf is the node that a page has, if it has one's bytes, and nothing else.
func nodeOf(page string) (node, bool) {
	n := node{level: int(page[0])}
	rest := page[headBytes:]
	for range numberOf(page[1:headBytes]) {
		r, behind, ok := cutRow(rest)
		if !ok {
			return node{}, false
		}
		n.rows = append(n.rows, r)
		rest = behind
	}
	return n, strings.Trim(rest, "\x00") == ""
}

// cutRow is the row that bytes begin with, and what is behind it.
func cutRow(b string) (row, string, bool) {
	if len(b) < rowBytes {
		return row{}, "", false
	}
	keyEnd := rowBytes + int(b[0])
	end := keyEnd + int(b[1])
	if len(b) < end {
		return row{}, "", false
	}
	return row{key: b[rowBytes:keyEnd], val: b[keyEnd:end]}, b[end:], true
}

// numberText is a number as its bytes, numberOf reads it.
func numberText(n int) string {
	return string([]byte{byte(n >> 8), byte(n)})
}

func numberOf(b string) int {
	return int(b[0])<<8 | int(b[1])
}
