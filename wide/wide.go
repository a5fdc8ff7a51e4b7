// Package wide is layer 1, signed numbers of 128 bits whose arithmetic saturates: see shared/doc/01-wide.md.
package wide

import (
	"math"
	"math/bits"

	"horologe/api"
)

// The bounds of a wide number: -2^127 and 2^127 - 1.
var (
	least    = api.Wide{Hi: math.MinInt64}
	greatest = api.Wide{Hi: math.MaxInt64, Lo: math.MaxUint64}
)

// Of returns n.
func Of(n int64) api.Wide {
	return api.Wide{Hi: n >> 63, Lo: uint64(n)}
}

// Add returns a + b; it saturates.
func Add(a, b api.Wide) api.Wide {
	lo, carry := bits.Add64(a.Lo, b.Lo, 0)
	hi, _ := bits.Add64(uint64(a.Hi), uint64(b.Hi), carry)
	sum := api.Wide{Hi: int64(hi), Lo: lo}
	// Only summands of one sign can leave the range, and then the sum wraps to the other sign.
	if negative(a) == negative(b) && negative(sum) != negative(a) {
		return bound(negative(a))
	}
	return sum
}

// Sub returns a - b; it saturates.
func Sub(a, b api.Wide) api.Wide {
	// Not Add(a, Neg(b)): -2^127 has no exact negation, though a - b may be in range.
	lo, borrow := bits.Sub64(a.Lo, b.Lo, 0)
	hi, _ := bits.Sub64(uint64(a.Hi), uint64(b.Hi), borrow)
	difference := api.Wide{Hi: int64(hi), Lo: lo}
	if negative(a) != negative(b) && negative(difference) != negative(a) {
		return bound(negative(a))
	}
	return difference
}

// Neg returns -a; it saturates.
func Neg(a api.Wide) api.Wide {
	return Sub(api.Wide{}, a)
}

// Abs returns the absolute value of a; it saturates.
func Abs(a api.Wide) api.Wide {
	if negative(a) {
		return Neg(a)
	}
	return a
}

// Cmp returns -1, 0 or 1 if a is less than, equal to or greater than b.
func Cmp(a, b api.Wide) int {
	if a == b {
		return 0
	}
	if a.Hi < b.Hi || a.Hi == b.Hi && a.Lo < b.Lo {
		return -1
	}
	return 1
}

// Mul returns the product of a and b, which always fits.
func Mul(a, b int64) api.Wide {
	sign := signer((a < 0) != (b < 0))
	_, x := magnitude(Of(a))
	_, y := magnitude(Of(b))
	return sign(bits.Mul64(x, y))
}

// Scale returns the product of a and n; it saturates.
func Scale(a api.Wide, n uint32) api.Wide {
	sign := signer(negative(a))
	hi, lo := magnitude(a)
	carried, low := bits.Mul64(lo, uint64(n))
	over, high := bits.Mul64(hi, uint64(n))
	high, carry := bits.Add64(high, carried, 0)
	if over != 0 || carry != 0 {
		// What is above 128 bits is lost; the greatest magnitude saturates just as well.
		high = math.MaxUint64
	}
	return sign(high, low)
}

// Half returns a divided by 2, rounded down.
func Half(a api.Wide) api.Wide {
	return api.Wide{Hi: a.Hi >> 1, Lo: a.Lo>>1 | uint64(a.Hi)<<63}
}

// Div returns a divided by n, rounded down, and what remains; it returns false if n is 0.
func Div(a api.Wide, n uint64) (q api.Wide, r uint64, ok bool) {
	if n == 0 {
		return api.Wide{}, 0, false
	}
	if negative(a) {
		// The complement of a is -a - 1: dividing it rounds the complement of q down, and never overflows.
		q, r = divide(complement(a), n)
		return complement(q), n - 1 - r, true
	}
	q, r = divide(a, n)
	return q, r, true
}

// Clip returns the int64 that is nearest to a.
func Clip(a api.Wide) int64 {
	n := int64(a.Lo)
	if Of(n) == a {
		return n
	}
	if negative(a) {
		return math.MinInt64
	}
	return math.MaxInt64
}

// Root returns the greatest integer whose square is at most a, and 0 if a is negative.
func Root(a api.Wide) uint64 {
	if negative(a) {
		return 0
	}
	root := uint64(0)
	for bit := uint64(1) << 63; bit != 0; bit >>= 1 {
		hi, lo := bits.Mul64(root|bit, root|bit)
		if hi < uint64(a.Hi) || hi == uint64(a.Hi) && lo <= a.Lo {
			root |= bit
		}
	}
	return root
}

func negative(a api.Wide) bool {
	return a.Hi < 0
}

// bound returns what a result beyond the range saturates to.
func bound(minus bool) api.Wide {
	if minus {
		return least
	}
	return greatest
}

// magnitude returns the absolute value of a, which is up to 2^127 and hence no wide number.
func magnitude(a api.Wide) (hi, lo uint64) {
	if !negative(a) {
		return uint64(a.Hi), a.Lo
	}
	lo, borrow := bits.Sub64(0, a.Lo, 0)
	hi, _ = bits.Sub64(0, uint64(a.Hi), borrow)
	return hi, lo
}

// signer returns a function that gives a magnitude its sign, and saturates.
func signer(minus bool) func(hi, lo uint64) api.Wide {
	return func(hi, lo uint64) api.Wide {
		if hi > math.MaxInt64 {
			// A magnitude of exactly 2^127 needs no case of its own: -2^127 is the lower bound.
			return bound(minus)
		}
		a := api.Wide{Hi: int64(hi), Lo: lo}
		if minus {
			return Neg(a)
		}
		return a
	}
}

func complement(a api.Wide) api.Wide {
	return api.Wide{Hi: ^a.Hi, Lo: ^a.Lo}
}

// divide is Div for a that is not negative and n that is not 0.
func divide(a api.Wide, n uint64) (q api.Wide, r uint64) {
	hi := uint64(a.Hi)
	lo, r := bits.Div64(hi%n, a.Lo, n)
	return api.Wide{Hi: int64(hi / n), Lo: lo}, r
}
