// Package mix is layer 1: see shared/doc/01-mix.md.
package mix

import "math/bits"

const (
	factor = 0x9e3779b97f4a7c15 // odd, so that a product by it can be undone
	undo   = 0xf1de83e19937733d // times factor it is 1, by 2^64
	turn   = 29

	textBasis  = 0xcbf29ce484222325
	textFactor = 0x100000001b3
)

// Mix turns a number into another one, each into one of its own.
func Mix(n uint64) uint64 {
	n = fold(n) * factor
	return fold(bits.RotateLeft64(n, turn) * factor)
}

// Unmix is the number that Mix turns into one.
func Unmix(n uint64) uint64 {
	n = fold(n) * undo
	return fold(bits.RotateLeft64(n, -turn) * undo)
}

// Of is a text's number, by a seed.
func Of(seed uint64, s string) uint64 {
	h := textBasis ^ Mix(seed)
	for i := range len(s) {
		h = (h ^ uint64(s[i])) * textFactor
	}
	return Mix(h ^ uint64(len(s)))
}

// Place is a place of so many, in a row, for a number.
func Place(h uint64, row, size int) int {
	if size < 1 {
		return 0
	}
	place, _ := bits.Mul64(Mix(h+uint64(row)*factor), uint64(size))
	return int(place)
}

// fold undoes itself: the upper half stays as it is, so a second time takes it out of the lower one again.
func fold(n uint64) uint64 { return n ^ n>>32 }
