package fix

import (
	"math/bits"

	"cadastre/api"
)

// Plus is the sum s and a, modulo 2^128; a may be any int64.
func Plus(s api.Acc, a int64) api.Acc {
	lo, carry := bits.Add64(s.Lo, uint64(a), 0)
	hi, _ := bits.Add64(uint64(s.Hi), upper(a), carry)
	return api.Acc{Hi: int64(hi), Lo: lo}
}

// Less is the sum s less a, modulo 2^128; a may be any int64.
func Less(s api.Acc, a int64) api.Acc {
	lo, borrow := bits.Sub64(s.Lo, uint64(a), 0)
	hi, _ := bits.Sub64(uint64(s.Hi), upper(a), borrow)
	return api.Acc{Hi: int64(hi), Lo: lo}
}

// Told is the sum as a number.
func Told(s api.Acc) (int64, bool) {
	a := int64(s.Lo)
	if uint64(s.Hi) != upper(a) || !numbers(a) {
		return 0, false
	}
	return a, true
}

// upper is the upper half of a in 128 bits: its sign, 64 times.
func upper(a int64) uint64 { return uint64(a >> 63) }
