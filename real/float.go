package real

import (
	"math/bits"

	"cadastre/api"
)

// How the bits of a float lie: a sign, the exponent, the fraction, ahead of which a 1 is left out.
const (
	fractionBits = 52
	hidden       = 1 << fractionBits
	exponentMask = 1<<11 - 1
	// middle is the exponent of a float whose fraction, with its 1, is the whole number that it is.
	middle = 1023 + fractionBits
)

// float is what a float's bits say: a whole number, so many bits of which are behind the dot.
type float struct {
	below  bool
	whole  uint64
	behind int
}

func split(b uint64) float {
	exponent := int(b >> fractionBits & exponentMask)
	return float{
		below: b>>63 == 1,
		// With the lowest exponent no 1 is left out; but all of those are nothing beside a part, with or without it.
		whole:  hidden + b%hidden,
		behind: middle - exponent,
	}
}

// parts is the size of a float in ten thousandths, rounded; at least 3 of its bits are behind the dot.
func (f float) parts() uint64 {
	// One is 16 times 625: so all that is reckoned stays below 2^63, and twice that below 2^64.
	n := f.whole * (api.One / 16)
	if f.behind < 4 {
		return n * 2
	}
	return shorter(n, f.behind-4)
}

// byOne is the bits of the float nearest to n by One; n is not 0.
func byOne(n uint64) uint64 {
	ahead := bits.LeadingZeros64(n)
	top := n << ahead
	// With 13 bits more the upper half is below One, as Div64 needs it, and what comes has 63 bits at least.
	whole, rest := bits.Div64(top>>51, top<<13, api.One)
	// What is left only matters beside a half: it lies far below the last bit that is kept.
	if rest > 0 {
		whole |= 1
	}
	over := bits.Len64(whole) - fractionBits - 1
	exponent := middle + over - 13 - ahead
	// The fraction brings its 1 along, and, where rounding made it longer, one more: both go to the exponent.
	return uint64(exponent-1)<<fractionBits + shorter(whole, over)
}

// shorter is n without its lowest bits: the nearest, of two the even one; n is below 2^63, or down below 64.
func shorter(n uint64, down int) uint64 {
	// It is less than a half.
	if down > 63 {
		return 0
	}
	unit := uint64(1) << down
	whole, rest := n>>down, n%unit
	if rest > unit-rest || rest == unit-rest && whole%2 == 1 {
		whole++
	}
	return whole
}
