package wire

import "strings"

const (
	keyIntBytes = 8
	keyMark     = 0    // begins the two bytes that stand for a byte 0, or for a text's end
	keyNought   = 0xFF // behind the mark: a byte 0
	keyEnd      = 0x01 // behind the mark: the text's end; below keyNought, so that a text stands ahead of the longer ones that it begins
)

// KeyInt and KeyText lay parts of keys, which stand bytewise as what they say does; TakeKeyInt, TakeKeyText read them.
func KeyInt(b []byte, n int64) []byte {
	out := copyWithRoom(b, keyIntBytes)
	u := turnSign(uint64(n))
	for i := range keyIntBytes {
		out = append(out, byte(u>>(8*(keyIntBytes-1-i))))
	}
	return out
}

func TakeKeyInt(b []byte, at int) (int64, int, bool) {
	if at < 0 || at > len(b)-keyIntBytes {
		return 0, 0, false
	}
	var u uint64
	for _, c := range b[at : at+keyIntBytes] {
		u = u<<8 | uint64(c)
	}
	return int64(turnSign(u)), at + keyIntBytes, true
}

func KeyText(b []byte, s string) []byte {
	noughts := strings.Count(s, "\x00")
	out := copyWithRoom(b, len(s)+noughts+2)
	for i := range len(s) {
		out = append(out, s[i])
		if s[i] == keyMark {
			out = append(out, keyNought)
		}
	}
	return append(out, keyMark, keyEnd)
}

func TakeKeyText(b []byte, at int) (string, int, bool) {
	if at < 0 {
		return "", 0, false
	}
	var text []byte
reading:
	for next := at; next < len(b); next++ {
		if b[next] != keyMark {
			text = append(text, b[next])
			continue
		}
		next++
		if next == len(b) {
			break
		}
		switch b[next] {
		case keyEnd:
			return string(text), next + 1, true
		case keyNought:
			text = append(text, 0)
		default:
			break reading
		}
	}
	return "", 0, false
}

// turnSign adds 2^63, and takes it away again: numbers below 0 stand ahead of the others then.
func turnSign(u uint64) uint64 { return u ^ 1<<63 }
