// Package word is layer 1: words of 64 bits, with what is carried (see shared/doc/01-word.md).
package word

import "math/bits"

const (
	half    = 1 << 5
	lowHalf = 1<<half - 1
	all     = 1<<64 - 1
)

// doublings is how often one right bit has to be doubled till all 64 are right.
const doublings = 6

// Add answers the sum round at 2^64, and whether it went round.
func Add(a, b uint64, carry bool) (sum uint64, out bool) {
	sum = a + b
	out = sum < a
	if carry {
		sum++
		// Only one of both sums can go round: the first leaves at most 2^64 - 2.
		out = out || sum == 0
	}
	return sum, out
}

// Sub answers the rest round at 2^64, and whether it went below 0.
func Sub(a, b uint64, borrow bool) (rest uint64, out bool) {
	rest = a - b
	out = a < b
	if borrow {
		// Only one of both can go below 0: the first leaves at least 1.
		out = out || rest == 0
		rest--
	}
	return rest, out
}

// Mul answers the whole product, made of the four products of halves.
func Mul(a, b uint64) (high, low uint64) {
	aHigh, aLow := halves(a)
	bHigh, bLow := halves(b)
	upper, lowest := halves(aLow * bLow)
	// A product of halves leaves room for two more halves, so no sum here goes round.
	first, middle := halves(aHigh*bLow + upper)
	second, next := halves(aLow*bHigh + middle)
	return aHigh*bHigh + first + second, next<<half | lowest
}

func halves(a uint64) (high, low uint64) {
	return a >> half, a & lowHalf
}

// Div answers quotient and rest, if the quotient is one word.
func Div(high, low, by uint64) (q, r uint64, ok bool) {
	if high >= by {
		return 0, 0, false
	}
	q, r = bits.Div64(high, low, by)
	return q, r, true
}

// Inverse answers the number whose product with n is 1; an even number has none.
func Inverse(n uint64) (uint64, bool) {
	if n&1 == 0 {
		return 0, false
	}
	x := uint64(1)
	for range doublings {
		// If n*x is 1 + e, the next product is 1 - e*e: twice as many bits are right.
		x *= 2 - n*x
	}
	return x, true
}

// Mask answers all bits 1, or none.
func Mask(is bool) uint64 {
	if is {
		return all
	}
	return 0
}

// Choose answers the bits of a where mask has 1, of b elsewhere.
func Choose(mask, a, b uint64) uint64 {
	return a&mask | b&^mask
}

// Bits answers how many bits there are up to the highest 1.
func Bits(a uint64) int {
	return bits.Len64(a)
}
