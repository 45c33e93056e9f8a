// Package num is layer 1: whole numbers of 64 bits, reckoned without going round. See shared/doc/01-num.md.
package num

import (
	"math/bits"

	"triglyph/api"
)

// Add is a and b together.
func Add(a, b int64) (int64, api.Errno) {
	sum, rounds := addRound(a, b)
	if rounds != 0 {
		return 0, api.ErrOverflow
	}
	return sum, api.OK
}

// Sub is a without b.
func Sub(a, b int64) (int64, api.Errno) {
	rest := a - b
	// Less is left exactly if something above 0 was taken away, unless it went round.
	if (rest < a) != (b > 0) {
		return 0, api.ErrOverflow
	}
	return rest, api.OK
}

// Neg is a number's opposite.
func Neg(a int64) (int64, api.Errno) { return Sub(0, a) }

// Abs is how great a number is.
func Abs(a int64) (int64, api.Errno) {
	if a < 0 {
		return Neg(a)
	}
	return a, api.OK
}

// Sgn is a number's sign.
func Sgn(a int64) int64 {
	switch {
	case a < 0:
		return -1
	case a > 0:
		return 1
	}
	return 0
}

// Prod is the product of numbers; only what comes of it must fit.
func Prod(l []int64) (int64, api.Errno) {
	// A 0 makes good whatever does not fit beside it, so it is looked for first;
	// without one a product's size never shrinks, and what is too great stays so.
	if hasZero(l) {
		return 0, api.OK
	}
	size, below := uint64(1), false
	for i := range len(l) {
		high, low := bits.Mul64(size, sizeOf(l[i]))
		if high != 0 {
			return 0, api.ErrOverflow
		}
		size = low
		below = below != (l[i] < 0)
	}
	return signed(size, below)
}

// Mul is a times b.
func Mul(a, b int64) (int64, api.Errno) {
	high, low := bits.Mul64(sizeOf(a), sizeOf(b))
	if high != 0 {
		return 0, api.ErrOverflow
	}
	return signed(low, (a < 0) != (b < 0))
}

// Sum is the sum of numbers; only what comes of it must fit.
func Sum(l []int64) (int64, api.Errno) {
	// The whole is sum and 2^64 times rounds, so it fits exactly if the rounds
	// upward and downward outweigh each other.
	sum, rounds := int64(0), 0
	for i := range len(l) {
		next, round := addRound(sum, l[i])
		sum = next
		rounds += round
	}
	if rounds != 0 {
		return 0, api.ErrOverflow
	}
	return sum, api.OK
}

// Res is what b leaves beside whole multiples of a: of a's sign, below it in size; b itself, if a is 0.
func Res(a, b int64) int64 {
	if a == 0 {
		return b
	}
	rest := b % a
	// Go's rest has b's sign; one multiple more gives it a's. The signs differ, so the sum fits.
	if rest != 0 && (rest < 0) != (a < 0) {
		rest += a
	}
	return rest
}

// addRound is a + b as 64 bits hold it, and how often it went round: 1 upward, -1 downward.
func addRound(a, b int64) (int64, int) {
	sum := a + b
	switch {
	case b > 0 && sum < a:
		return sum, 1
	case b < 0 && sum > a:
		return sum, -1
	}
	return sum, 0
}

// sizeOf is a number without its sign; that of -2^63 fits here, too.
func sizeOf(a int64) uint64 {
	if a < 0 {
		return -uint64(a)
	}
	return uint64(a)
}

// signed is the number of a size, below 0 or not.
func signed(size uint64, below bool) (int64, api.Errno) {
	most := uint64(1<<63 - 1)
	if below {
		most = 1 << 63
	}
	if size > most {
		return 0, api.ErrOverflow
	}
	if below {
		return int64(-size), api.OK
	}
	return int64(size), api.OK
}

// hasZero tells whether one of the numbers is 0.
func hasZero(l []int64) bool {
	for i := range len(l) {
		if l[i] == 0 {
			return true
		}
	}
	return false
}
