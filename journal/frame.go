package journal

import (
	"usance/api"
	"usance/wire"
)

const (
	sumBytes = 4
	sumAt    = api.Sector - sumBytes
)

// What a sector is stands in no byte of it, but is summed with them, so that none passes for what it is not. A note is of the block's kind: it is just what is laid there.
const (
	markKind  = "mark"
	blockKind = "block"
)

// frame is a whole sector: a block's bytes, what its head says of them, and a sum, by which another byte is told. It is an array, so that a copy shares nothing, and two are compared by all that they hold.
type frame [api.Sector]byte

// head says which write a sector is of; and of a note or a block which block it is, of a mark how many notes there are.
type head struct {
	seq    int64
	number int
}

// framed lays bytes and their head. A seq takes ten bytes at most, a number of blocks two: so they end ahead of the sum.
func framed(kind string, b []byte, h head) frame {
	var f frame
	copy(f[:Bytes], b)
	copy(f[Bytes:sumAt], wire.PutInt(wire.PutInt(nil, h.seq), int64(h.number)))
	sum := wire.Crc([]byte(kind), f[:sumAt])
	for i := range sumBytes {
		f[sumAt+i] = byte(sum >> (8 * i))
	}
	return f
}

// head is what a frame says, if it is as framed lays one of this kind, to the last byte.
func (f frame) head(kind string) (head, bool) {
	seq, at, ok := wire.TakeInt(f[:sumAt], Bytes)
	if !ok {
		return head{}, false
	}
	number, _, ok := wire.TakeInt(f[:sumAt], at)
	h := head{seq: seq, number: int(number)}
	if !ok || framed(kind, f[:Bytes], h) != f {
		return head{}, false
	}
	return h, true
}
