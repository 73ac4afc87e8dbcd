// Package num is layer 1: see shared/doc/01-num.md.
package num

import (
	"math/bits"

	"usance/api"
)

// Clamp is a number, within its limits.
func Clamp(a int64) int64 {
	if a > api.MaxNum {
		return api.MaxNum
	}
	if a < -api.MaxNum {
		return -api.MaxNum
	}
	return a
}

// Add, Sub, Mul, Div, Neg reckon with millionths.
func Add(a, b int64) int64 { return Clamp(Clamp(a) + Clamp(b)) }

func Sub(a, b int64) int64 { return Clamp(Clamp(a) - Clamp(b)) }

func Mul(a, b int64) int64 { return ratio(Clamp(a), Clamp(b), api.One) }

func Div(a, b int64) int64 {
	if b == 0 {
		return 0
	}
	return ratio(Clamp(a), api.One, Clamp(b))
}

func Neg(a int64) int64 { return -Clamp(a) }

// Whole is a number's whole part.
func Whole(a int64) int64 { return Clamp(a) / api.One }

// ratio is a b / c, rounded and clamped, of numbers within their limits; c is not 0.
func ratio(a, b, c int64) int64 {
	n := int64(ratioOfSizes(size(a), size(b), size(c)))
	productBelow := (a < 0) != (b < 0)
	if productBelow != (c < 0) {
		return -n
	}
	return n
}

// size is how far a number within its limits is from 0.
func size(a int64) uint64 {
	if a < 0 {
		return uint64(-a)
	}
	return uint64(a)
}

// ratioOfSizes is a b / c, rounded, at most MaxNum; c is not 0.
func ratioOfSizes(a, b, c uint64) uint64 {
	high, low := bits.Mul64(a, b)
	if high >= c { // the quotient has more than 64 bits, which bits.Div64 refuses
		return api.MaxNum
	}
	n, rest := bits.Div64(high, low, c)
	if n >= api.MaxNum { // ahead of rounding, which might go past 64 bits
		return api.MaxNum
	}
	if roundsUp(n, rest, c) {
		n++
	}
	return n
}

// roundsUp: is n + rest / c nearer to n + 1, or halfway to it with n odd?
func roundsUp(n, rest, c uint64) bool {
	missing := c - rest
	return rest > missing || rest == missing && n%2 == 1
}
