// Package fix is layer 1: numbers of ten thousandths: see DOC.md and doc/01-fix.md.
package fix

import (
	"math/bits"

	"cadastre/api"
)

// least is the one int64 that is no number: it has no counterpart above 0.
const least = -1 << 63

// places is how many decimal digits the parts of a one have.
const places = 4

// lowest is the last digit that Round reckons: the power of ten beyond it is above all numbers.
const lowest = -14

// Can tells whether a is a number.
func Can(a int64) bool { return a != least }

// Add is a and b together.
func Add(a, b int64) (int64, bool) {
	if !numbers(a, b) {
		return 0, false
	}
	return Told(Plus(Plus(api.Acc{}, a), b))
}

// Sub is a less b.
func Sub(a, b int64) (int64, bool) {
	if !numbers(a, b) {
		return 0, false
	}
	return Told(Less(Plus(api.Acc{}, a), b))
}

// Mul is a times b, rounded to whole parts.
func Mul(a, b int64) (int64, bool) {
	if !numbers(a, b) {
		return 0, false
	}
	return ratio(a, b, api.One)
}

// Div is a by b, rounded to whole parts.
func Div(a, b int64) (int64, bool) {
	if !numbers(a, b) || b == 0 {
		return 0, false
	}
	return ratio(a, api.One, b)
}

// Floor is the greatest whole one that is not above a.
func Floor(a int64) (int64, bool) {
	rest, ok := Mod(a, api.One)
	if !ok {
		return 0, false
	}
	return Sub(a, rest)
}

// Round is a with so many digits behind the dot, or, below 0, with so many noughts ahead of it.
func Round(a int64, digits int) (int64, bool) {
	if !numbers(a) {
		return 0, false
	}
	if digits >= places {
		return a, true
	}
	if digits < lowest {
		return 0, true
	}
	p := power(places - digits)
	rest := a % p
	inner := a - rest
	if size(rest) < uint64(p)/2 {
		return inner, true
	}
	if a < 0 {
		return Sub(inner, p)
	}
	return Add(inner, p)
}

// Mod is what is left of a by b, with the sign of b.
func Mod(a, b int64) (int64, bool) {
	if !numbers(a, b) || b == 0 {
		return 0, false
	}
	rest := a % b
	// Go's rest has the sign of a: where b has the other one, the whole number below is one less.
	if rest != 0 && (rest < 0) != (b < 0) {
		rest += b
	}
	return rest, true
}

// numbers tells whether all that may be none are numbers.
func numbers(l ...int64) bool {
	for _, a := range l {
		if !Can(a) {
			return false
		}
	}
	return true
}

// ratio is a times b by c, rounded, halves away from 0; c is not 0.
func ratio(a, b, c int64) (int64, bool) {
	by := size(c)
	hi, lo := bits.Mul64(size(a), size(b))
	// Div64 panics where what comes has more than 64 bits.
	if hi >= by {
		return 0, false
	}
	whole, rest := bits.Div64(hi, lo, by)
	// Asked ahead of rounding, which could wrap round to 0.
	if whole > api.Most {
		return 0, false
	}
	// Twice the rest might not fit into 64 bits.
	if rest >= by-rest {
		whole++
	}
	below := (a < 0) != (b < 0) != (c < 0)
	return signed(whole, below)
}

// signed is the number of a size and a sign.
func signed(n uint64, below bool) (int64, bool) {
	if n > api.Most {
		return 0, false
	}
	if below {
		return -int64(n), true
	}
	return int64(n), true
}

// size is a without its sign.
func size(a int64) uint64 {
	if a < 0 {
		return -uint64(a)
	}
	return uint64(a)
}

// power is 10 to the power of n; n is at most 18.
func power(n int) int64 {
	p := int64(1)
	for range n {
		p *= 10
	}
	return p
}
