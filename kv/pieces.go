package kv

import (
	"iter"
	"strings"

	"usance/api"
	"usance/wire"
)

// A pair has as many pieces as the whole number of pieceBytes in its value, and one: all but the last one are full, that one is not; so a piece says whether it is the last.
const (
	pieceBytes = 190
	pieceHead  = 2 // of a piece's key, ahead of the pair's: the namespace, and which piece it is
)

// The mark's key is ahead of each piece's, and theirs are all from behindMark on. Its value is the sign, and a number's bytes.
const (
	markKey    = ""
	behindMark = "\x00"
	sign       = "usance: a store\n"
)

// pieces is how many a value of so many bytes has.
func pieces(bytes int) int { return 1 + bytes/pieceBytes }

// piece is the tree's key of one of a pair's pieces. What stands ahead of the pair's key has always as many bytes: so first pieces stand in the tree as their keys do, and these need no other bytes, with which they might be too long.
func (n name) piece(at int) string {
	return string([]byte{byte(n.space), byte(at)}) + n.key
}

// pieceOf is whose piece has such a key in the tree, and which it is.
func pieceOf(key string) (name, int) {
	return name{int(key[0]), key[pieceHead:]}, int(key[1])
}

// isPiece: may a piece have this key and this value?
func isPiece(key, val string) bool {
	return pieceHead <= len(key) && len(key) <= pieceHead+api.MaxKey && len(val) <= pieceBytes
}

// sizes is how many bytes the values of pairs have, if these are all of their pieces, and nothing else. As they come by rising keys, each comes behind those of its pair that are ahead of it.
func sizes(all iter.Seq2[string, string]) (map[name]int, bool) {
	out := make(map[name]int)
	full := 0 // pieces behind which the next one has not come yet
	for key, val := range all {
		if !isPiece(key, val) {
			return nil, false
		}
		n, at := pieceOf(key)
		if out[n] != at*pieceBytes || out[n]+len(val) > api.MaxValue {
			return nil, false
		}
		out[n] += len(val)
		if at > 0 {
			full--
		}
		if len(val) == pieceBytes {
			full++
		}
	}
	return out, full == 0
}

// mark is the mark's value behind so many Commits; seqOf reads it.
func mark(seq int64) string {
	return sign + string(wire.PutInt(nil, seq))
}

func seqOf(mark string) (int64, bool) {
	number, ok := strings.CutPrefix(mark, sign)
	if !ok {
		return 0, false
	}
	seq, end, ok := wire.TakeInt([]byte(number), 0)
	return seq, ok && end == len(number) && seq >= 0
}
