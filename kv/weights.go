package kv

import (
	"strings"

	"usance/api"
)

const (
	mostSpace   = 255
	pieceWeight = 12 // of each piece, beside the pair's key
)

// name says which pair one is. It is a struct, so that two are compared by both: no namespace's key is another one's.
type name struct {
	space int
	key   string
}

// weights is what a store's pairs weigh, which hangs on how many bytes their values have. They stay in memory, since what is too much is refused ahead of what the disk would answer.
type weights struct {
	bytes map[name]int
	sum   int
}

func nameOf(p api.Put) name { return name{p.Space, p.Key} }

func (n name) right() bool {
	return 0 <= n.space && n.space <= mostSpace && len(n.key) <= api.MaxKey
}

// weight is what a pair weighs whose value has so many bytes.
func (n name) weight(bytes int) int {
	return (pieceWeight+len(n.key))*pieces(bytes) + bytes
}

// right: may a put be done?
func right(p api.Put) bool {
	if p.Gone && p.Val != "" {
		return false
	}
	return nameOf(p).right() && len(p.Val) <= api.MaxValue
}

// counted is those puts that no later one of the same pair undoes, in their order.
func counted(l []api.Put) []api.Put {
	last := make(map[name]int)
	for i, p := range l {
		last[nameOf(p)] = i
	}
	var out []api.Put
	for i, p := range l {
		if last[nameOf(p)] == i {
			out = append(out, p)
		}
	}
	return out
}

// of is what a pair weighs: nothing, if it is not there.
func (w *weights) of(n name) int {
	bytes, has := w.bytes[n]
	if !has {
		return 0
	}
	return n.weight(bytes)
}

// with is what all pairs would weigh, if these puts were done, each of another pair.
func (w *weights) with(l []api.Put) int {
	sum := w.sum
	for _, p := range l {
		n := nameOf(p)
		sum -= w.of(n)
		if !p.Gone {
			sum += n.weight(len(p.Val))
		}
	}
	return sum
}

func (w *weights) do(l []api.Put) {
	for _, p := range l {
		n := nameOf(p)
		w.drop(n)
		if !p.Gone {
			w.keep(n, len(p.Val))
		}
	}
}

func (w *weights) drop(n name) {
	w.sum -= w.of(n)
	delete(w.bytes, n)
}

// keep lets a pair weigh something that weighs nothing yet. Its key is a copy, since the text that it is a part of may be a great one.
func (w *weights) keep(n name, bytes int) {
	n.key = strings.Clone(n.key)
	w.bytes[n] = bytes
	w.sum += n.weight(bytes)
}
