// Package mix is layer 1: numbers and texts mixed into numbers: see shared/doc/01-mix.md.
package mix

import "windrose/api"

const (
	// factor is odd: a product with it modulo 2^64 can be undone.
	factor = 0xD6E8FEB86659FD93
	// unfactor undoes factor: their product is 1 modulo 2^64.
	unfactor = 0xCFEE444D8B59A89B
	// stride keeps a state and a number that are alike from folding into 0.
	stride = 0x9E3779B97F4A7C15
	// pieceBytes is how many bytes of a text fit into one number.
	pieceBytes = 8
)

// cross lays the upper half over the lower one. The upper half stays as it is: done twice, it undoes itself.
func cross(x uint64) uint64 { return x ^ x>>32 }

// Mix mixes a number.
func Mix(x uint64) uint64 {
	x = cross(x) * factor
	x = cross(x) * factor
	return cross(x)
}

// Unmix is the number that is mixed into one.
func Unmix(x uint64) uint64 {
	x = cross(x) * unfactor
	x = cross(x) * unfactor
	return cross(x)
}

// step folds one more number into a state.
func step(state, n uint64) uint64 { return Mix((state ^ n) + stride) }

// Fold folds numbers.
func Fold(seed uint64, l ...uint64) uint64 {
	state := Mix(seed)
	for _, n := range l {
		state = step(state, n)
	}
	return state
}

// Text folds a text. How long it is goes first, so that noughts at its end count.
func Text(seed uint64, s string) uint64 {
	state := Fold(seed, uint64(len(s)))
	for len(s) > 0 {
		n := min(pieceBytes, len(s))
		state = step(state, piece(s[:n]))
		s = s[n:]
	}
	return state
}

// piece is the number of at most eight bytes, the first one the lowest.
func piece(s string) uint64 {
	var n uint64
	for i := range len(s) {
		n |= uint64(s[i]) << (8 * i)
	}
	return n
}

// Below is a number below another one. It leans on the highest bits, and a product of 32 by 31 bits can't run over.
func Below(x uint64, n int) int {
	if n < 1 || n > api.MaxCount {
		return 0
	}
	return int((x >> 32) * uint64(n) >> 32)
}
