package fix

import (
	"math/big"
	"testing"

	"cadastre/api"
)

// What the chapter's words come to in whole numbers without bounds, reckoned apart from the package.

func whole(a int64) *big.Int { return big.NewInt(a) }

func times(a, b *big.Int) *big.Int { return new(big.Int).Mul(a, b) }

func ten(n int) *big.Int {
	return new(big.Int).Exp(big.NewInt(10), big.NewInt(int64(n)), nil)
}

// nearest is a by b as the nearest whole number, of two the one farther from 0.
func nearest(a, b *big.Int) *big.Int {
	two := big.NewInt(2)
	top := new(big.Int).Add(times(two, new(big.Int).Abs(a)), new(big.Int).Abs(b))
	n := top.Quo(top, times(two, new(big.Int).Abs(b)))
	if a.Sign()*b.Sign() < 0 {
		n.Neg(n)
	}
	return n
}

// under is the greatest whole number that is not above a by b.
func under(a, b *big.Int) *big.Int {
	n, rest := new(big.Int).QuoRem(a, b, new(big.Int))
	if rest.Sign()*b.Sign() < 0 {
		n.Sub(n, big.NewInt(1))
	}
	return n
}

// asNumber is n, if it is one, and if all it came from are.
func asNumber(n *big.Int, from ...int64) (int64, bool) {
	for _, a := range from {
		if a == least {
			return 0, false
		}
	}
	if n == nil || new(big.Int).Abs(n).Cmp(whole(api.Most)) > 0 {
		return 0, false
	}
	return n.Int64(), true
}

// asWhole is a sum as a whole number from 0 up to 2^128.
func asWhole(s api.Acc) *big.Int {
	n := new(big.Int).Lsh(whole(s.Hi), 64)
	return modulo(n.Add(n, new(big.Int).SetUint64(s.Lo)))
}

func modulo(n *big.Int) *big.Int {
	return new(big.Int).Mod(n, new(big.Int).Lsh(big.NewInt(1), 128))
}

// edges: numbers where signs, halves, bounds and carries change, and the one that is none.
func edges() []int64 {
	l := []int64{least}
	for _, a := range []int64{
		0, 1, 2, 3, 7, 4999, 5000, 5001, 9999, 10000, 10001, 12345, 12500, 14999, 15000, 15001, 20000, 30000,
		99999, 50000000, 1<<31 - 1, 1 << 31, 1<<32 - 1, 1 << 32, 3037000499, 3037000500, 303700049976, 303700049977,
		922337203685477, 922337203685478, 1844674407370955, 1 << 61, 1 << 62, 1<<62 + 1,
		500000000000000000, 999999999999999999, 1000000000000000000, 8500000000000000000,
		api.Most - 5808, api.Most - 5807, api.Most - 807, api.Most - 1, api.Most,
	} {
		l = append(l, a, -a)
	}
	return l
}

// pairs goes through all pairs of edges, and through made-up pairs of all sizes, the same in every run.
func pairs(see func(a, b int64)) {
	l := edges()
	for _, a := range l {
		for _, b := range l {
			see(a, b)
		}
	}
	state := uint64(1)
	next := func() int64 {
		state = state*6364136223846793005 + 1442695040888963407
		n := state ^ state>>29
		return int64(n) >> (state >> 58)
	}
	for range 20000 {
		see(next(), next())
	}
}

type asked struct {
	n  int64
	ok bool
}

func got(n int64, ok bool) asked { return asked{n, ok} }

func check(t *testing.T, name string, answer, want asked, args ...int64) {
	t.Helper()
	if answer != want {
		t.Errorf("%s of %v: %v, not %v", name, args, answer, want)
	}
}
