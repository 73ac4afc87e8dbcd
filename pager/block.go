package pager

import (
	"slices"

	"usance/api"
	"usance/journal"
)

// pagesOf is how many pages a journal has room for.
func pagesOf(j *journal.Journal) int {
	return (j.Blocks() - headBlocks) / pageBlocks
}

// firstBlock is where a page begins.
func firstBlock(page int) int {
	return headBlocks + page*pageBlocks
}

// readBlocks is the bytes of blocks that follow each other.
func readBlocks(j *journal.Journal, first, count int) ([]byte, api.Errno) {
	out := make([]byte, 0, count*journal.Bytes)
	for i := range count {
		b, e := j.Read(first + i)
		if e != api.OK {
			return nil, e
		}
		out = append(out, b...)
	}
	return out, api.OK
}

// readHead reads all of it ahead of any look at it, since the journal's errors come first.
func readHead(j *journal.Journal) (head, api.Errno) {
	b, e := readBlocks(j, 0, headBlocks)
	if e != api.OK {
		return head{}, e
	}
	return head(b), api.OK
}

// headToWrite is the blocks, and their bytes, by which a state stands in the journal.
func headToWrite(s state) ([]int, [][]byte) {
	h := s.head()
	return alsoWrite(nil, nil, 0, h[:])
}

// alsoWrite has bytes be written, too, to blocks that follow each other.
func alsoWrite(at []int, b [][]byte, first int, what []byte) ([]int, [][]byte) {
	for part := range slices.Chunk(what, journal.Bytes) {
		at = append(at, first)
		b = append(b, part)
		first++
	}
	return at, b
}
