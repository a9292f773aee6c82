package nat

import (
	"iter"

	"keysmith/word"
)

const limbBits = 64

// row is limbs of a fixed number that are worked on in place.
type row []uint64

// pair is the limbs of two rows at one place.
type pair struct {
	a, b uint64
}

// pairs goes through two rows at once, the least limbs first; a row that has ended gives noughts.
func pairs(a, b []uint64) iter.Seq2[int, pair] {
	return func(yield func(int, pair) bool) {
		for i := range max(len(a), len(b)) {
			if !yield(i, pair{limb(a, i), limb(b, i)}) {
				return
			}
		}
	}
}

// pairsDown goes through two rows at once, the highest limbs first: of two numbers they decide.
func pairsDown(a, b []uint64) iter.Seq2[int, pair] {
	return func(yield func(int, pair) bool) {
		for i := max(len(a), len(b)) - 1; i >= 0; i-- {
			if !yield(i, pair{limb(a, i), limb(b, i)}) {
				return
			}
		}
	}
}

func limb(a []uint64, i int) uint64 {
	if i < len(a) {
		return a[i]
	}
	return 0
}

// limbsOf answers how many limbs hold so many bits.
func limbsOf(bits int) int {
	return (bits + limbBits - 1) / limbBits
}

// take subtracts b, of no more limbs, and answers whether that went below 0.
func (r row) take(b []uint64) (below bool) {
	for i, p := range pairs(r, b) {
		r[i], below = word.Sub(p.a, p.b, below)
	}
	return below
}

// double shifts the row up by one bit, and puts one more at its lower end.
func (r row) double(one bool) {
	in := word.Mask(one) & 1
	for i, x := range r {
		r[i] = x<<1 | in
		in = x >> (limbBits - 1)
	}
}

// down puts the row, shifted down by so many bits, into another one.
func (r row) down(bits int, into row) {
	skip, part := bits/limbBits, bits%limbBits
	for i := range into {
		// With part 0 the upper limb is shifted by all its bits, and nothing of it is left.
		into[i] = limb(r, skip+i)>>part | limb(r, skip+i+1)<<(limbBits-part)
	}
}

// set makes that bit 1.
func (r row) set(bit int) {
	r[bit/limbBits] |= 1 << (bit % limbBits)
}
