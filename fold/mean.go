package fold

import (
	"math/bits"

	"cadastre/api"
)

// Mean is the sum s by n, the nearest number, of two the one farther from 0.
func Mean(s api.Acc, n int) (int64, bool) {
	if n < 1 {
		return 0, false
	}
	whole, ok := quotient(s, uint64(n))
	if !ok {
		return 0, false
	}
	if s.Hi < 0 {
		return -whole, true
	}
	return whole, true
}

// quotient is the size of the sum s by n, rounded, if that is a number.
func quotient(s api.Acc, n uint64) (whole int64, ok bool) {
	high, low := size(s)
	if high >= n {
		// By n it is 2^64 or more, which Div64 can't tell.
		return 0, false
	}
	by, rest := bits.Div64(high, low, n)
	if by > api.Most {
		return 0, false
	}
	if rest >= n-rest {
		by++
	}
	if by > api.Most {
		return 0, false
	}
	return int64(by), true
}

// size is the sum s without its sign, in two halves.
func size(s api.Acc) (high, low uint64) {
	high, low = uint64(s.Hi), s.Lo
	if s.Hi < 0 {
		var borrow uint64
		low, borrow = bits.Sub64(0, low, 0)
		high, _ = bits.Sub64(0, high, borrow)
	}
	return high, low
}
