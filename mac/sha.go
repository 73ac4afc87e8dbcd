package mac

import (
	"math/bits"
	"strings"
)

const (
	blockBytes  = 64
	lengthBytes = 8 // at the end, how many bits there were
	rounds      = 64
)

// numbers are the eight numbers of SHA-256. They are an array, so that a block's rounds work on a copy, to which H is added afterwards.
type numbers [8]uint32

var firstNumbers = numbers{
	0x6A09E667, 0xBB67AE85, 0x3C6EF372, 0xA54FF53A, 0x510E527F, 0x9B05688C, 0x1F83D9AB, 0x5BE0CD19,
}

// cubeRoots are the first 32 bits behind the point of the cube roots of the first 64 primes.
var cubeRoots = [rounds]uint32{
	0x428A2F98, 0x71374491, 0xB5C0FBCF, 0xE9B5DBA5, 0x3956C25B, 0x59F111F1, 0x923F82A4, 0xAB1C5ED5,
	0xD807AA98, 0x12835B01, 0x243185BE, 0x550C7DC3, 0x72BE5D74, 0x80DEB1FE, 0x9BDC06A7, 0xC19BF174,
	0xE49B69C1, 0xEFBE4786, 0x0FC19DC6, 0x240CA1CC, 0x2DE92C6F, 0x4A7484AA, 0x5CB0A9DC, 0x76F988DA,
	0x983E5152, 0xA831C66D, 0xB00327C8, 0xBF597FC7, 0xC6E00BF3, 0xD5A79147, 0x06CA6351, 0x14292967,
	0x27B70A85, 0x2E1B2138, 0x4D2C6DFC, 0x53380D13, 0x650A7354, 0x766A0ABB, 0x81C2C92E, 0x92722C85,
	0xA2BFE8A1, 0xA81A664B, 0xC24B8B70, 0xC76C51A3, 0xD192E819, 0xD6990624, 0xF40E3585, 0x106AA070,
	0x19A4C116, 0x1E376C08, 0x2748774C, 0x34B0BCB5, 0x391C0CB3, 0x4ED8AA4A, 0x5B9CCA4F, 0x682E6FF3,
	0x748F82EE, 0x78A5636F, 0x84C87814, 0x8CC70208, 0x90BEFFFA, 0xA4506CEB, 0xBEF9A3F7, 0xC67178F2,
}

// shaOf takes whole blocks where they stand, so that only what is left behind them is copied and filled up.
func shaOf(text string) string {
	whole := len(text) - len(text)%blockBytes
	h := overBlocks(firstNumbers, text[:whole])
	h = overBlocks(h, filledUp(text[whole:], len(text)))
	return string(h.bytes())
}

// filledUp is the bytes behind the last whole block with the end mark and the length of the whole text: one block or two.
func filledUp(rest string, length int) string {
	const marked = 1 + lengthBytes
	blocks := (len(rest) + marked + blockBytes - 1) / blockBytes
	noughts := blocks*blockBytes - len(rest) - marked
	return rest + "\x80" + strings.Repeat("\x00", noughts) + bitsAsBytes(length)
}

// bitsAsBytes says in eight bytes, the highest first, how many bits so many bytes have.
func bitsAsBytes(length int) string {
	n := uint64(length) * 8
	var out [lengthBytes]byte
	for i := range out {
		out[i] = byte(n >> (8 * (lengthBytes - 1 - i)))
	}
	return string(out[:])
}

func overBlocks(h numbers, text string) numbers {
	for at := 0; at < len(text); at += blockBytes {
		h = h.plus(h.mixed(words(text[at : at+blockBytes])))
	}
	return h
}

// words are W0 to W63 of a block.
func words(block string) [rounds]uint32 {
	var w [rounds]uint32
	for i := range len(block) {
		w[i/4] = w[i/4]<<8 | uint32(block[i])
	}
	for t := blockBytes / 4; t < rounds; t++ {
		x, y := w[t-15], w[t-2]
		s0 := rotr(x, 7) ^ rotr(x, 18) ^ x>>3
		s1 := rotr(y, 17) ^ rotr(y, 19) ^ y>>10
		w[t] = s1 + w[t-7] + s0 + w[t-16]
	}
	return w
}

// mixed is what the rounds of a block make of H; H itself stays.
func (h numbers) mixed(w [rounds]uint32) numbers {
	for t := range rounds {
		h = h.turned(cubeRoots[t] + w[t])
	}
	return h
}

// turned is one round, of which kw is Kt + Wt.
func (h numbers) turned(kw uint32) numbers {
	a, b, c, e, f, g := h[0], h[1], h[2], h[4], h[5], h[6]
	t1 := h[7] + (rotr(e, 6) ^ rotr(e, 11) ^ rotr(e, 25)) + (e&f ^ ^e&g) + kw
	t2 := (rotr(a, 2) ^ rotr(a, 13) ^ rotr(a, 22)) + (a&b ^ a&c ^ b&c)
	return numbers{t1 + t2, a, b, c, h[3] + t1, e, f, g}
}

func (h numbers) plus(other numbers) numbers {
	for i, n := range other {
		h[i] += n
	}
	return h
}

func (h numbers) bytes() []byte {
	out := make([]byte, 0, 4*len(h))
	for _, n := range h {
		out = append(out, byte(n>>24), byte(n>>16), byte(n>>8), byte(n))
	}
	return out
}

func rotr(x uint32, n int) uint32 {
	return bits.RotateLeft32(x, -n)
}
