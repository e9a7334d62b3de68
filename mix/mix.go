// Package mix turns numbers about, one to one.
package mix

import "math/bits"

// apart is what Of adds to a key, so that no small key is mixed as it stands.
const apart = 0x9e3779b97f4a7c15

// step is a shift by which a number is folded onto itself, and a factor behind it. Each can be undone because the shift is not 0 and the factor is odd.
type step struct {
	shift  uint
	factor uint64
}

// steps ends with the factor 1, as no product follows its last shift.
var steps = [3]step{
	{30, 0xbf58476d1ce4e5b9},
	{27, 0x94d049bb133111eb},
	{31, 1},
}

// Mix: x, mixed.
func Mix(x uint64) uint64 {
	for s := range forward {
		x = (x ^ x>>s.shift) * s.factor
	}
	return x
}

// Unmix: the number that is x, mixed.
func Unmix(x uint64) uint64 {
	for s := range backward {
		x = unfold(x*inverse(s.factor), s.shift)
	}
	return x
}

// Turn: x, turned to the left by n modulo 64.
func Turn(x uint64, n int) uint64 { return bits.RotateLeft64(x, n) }

// Flip: x, its bits the other way round.
func Flip(x uint64) uint64 { return bits.Reverse64(x) }

// Of: key and a fixed number together, mixed.
func Of(key int64) uint64 { return Mix(uint64(key) + apart) }

func forward(yield func(step) bool) {
	for k := range len(steps) {
		if !yield(steps[k]) {
			return
		}
	}
}

func backward(yield func(step) bool) {
	for k := range len(steps) {
		if !yield(steps[len(steps)-1-k]) {
			return
		}
	}
}

// unfold undoes x ^ x>>shift. What is folded by n and by n once more is folded by 2n, so that doubling goes on till nothing is left to shift.
func unfold(x uint64, shift uint) uint64 {
	for n := shift; n < 64; n *= 2 {
		x ^= x >> n
	}
	return x
}

// inverse: the number whose product with an odd factor is 1. The factor itself is right in its lowest 3 bits, and each nearing makes twice as many right: five are enough for 64.
func inverse(factor uint64) uint64 {
	nearer := func(x uint64) uint64 { return x * (2 - factor*x) }
	x := factor
	for range 5 {
		x = nearer(x)
	}
	return x
}
