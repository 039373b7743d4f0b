package fold

import (
	"math"
	"math/big"
	"testing"

	"cadastre/api"
)

// meant is P13.3 in fractions.
func meant(s api.Acc, n int) (int64, bool) {
	if n < 1 {
		return 0, false
	}
	whole := nearest(exact(s), n)
	if whole.CmpAbs(big.NewInt(api.Most)) > 0 {
		return 0, false
	}
	return whole.Int64(), true
}

func holdMean(t *testing.T, s api.Acc, n int) {
	t.Helper()
	got, ok := Mean(s, n)
	if want, can := meant(s, n); got != want || ok != can {
		t.Fatalf("Mean of %v and %d: %d %v, not %d %v", exact(s), n, got, ok, want, can)
	}
}

// P13.3: by hand.
func TestMeanByHand(t *testing.T) {
	for _, c := range []struct {
		s    api.Acc
		n    int
		want int64
		ok   bool
	}{
		{api.Acc{}, 1, 0, true}, {api.Acc{}, math.MaxInt, 0, true},
		{api.Acc{}, 0, 0, false}, {api.Acc{}, -1, 0, false}, {api.Acc{Lo: 5}, 0, 0, false}, {api.Acc{Lo: 5}, -5, 0, false}, {api.Acc{Lo: 5}, math.MinInt, 0, false}, {api.Acc{Hi: -1}, math.MinInt, 0, false},
		{api.Acc{Lo: 7}, 1, 7, true}, {api.Acc{Hi: -1, Lo: 1<<64 - 7}, 1, -7, true},
		// Halves go away from 0, less does not.
		{api.Acc{Lo: 1}, 2, 1, true}, {api.Acc{Hi: -1, Lo: 1<<64 - 1}, 2, -1, true}, {api.Acc{Lo: 5}, 2, 3, true}, {api.Acc{Hi: -1, Lo: 1<<64 - 5}, 2, -3, true}, {api.Acc{Lo: 15}, 10, 2, true}, {api.Acc{Hi: -1, Lo: 1<<64 - 25}, 10, -3, true},
		{api.Acc{Lo: 1}, 3, 0, true}, {api.Acc{Lo: 2}, 3, 1, true}, {api.Acc{Hi: -1, Lo: 1<<64 - 1}, 3, 0, true}, {api.Acc{Hi: -1, Lo: 1<<64 - 2}, 3, -1, true}, {api.Acc{Lo: 14}, 10, 1, true},
		// Just a number, and just none.
		{api.Acc{Lo: api.Most}, 1, api.Most, true}, {api.Acc{Lo: 1 << 63}, 1, 0, false}, {api.Acc{Hi: -1, Lo: 1<<63 + 1}, 1, -api.Most, true}, {api.Acc{Hi: -1, Lo: 1 << 63}, 1, 0, false},
		{api.Acc{Lo: 1<<64 - 2}, 2, api.Most, true}, {api.Acc{Lo: 1<<64 - 1}, 2, 0, false}, {api.Acc{Hi: 1}, 2, 0, false}, {api.Acc{Hi: -1, Lo: 2}, 2, -api.Most, true}, {api.Acc{Hi: -1, Lo: 1}, 2, 0, false}, {api.Acc{Hi: -1}, 2, 0, false},
		{api.Acc{Hi: 1, Lo: 1<<63 - 2}, 3, api.Most, true}, {api.Acc{Hi: 1, Lo: 1<<63 - 1}, 3, 0, false},
		// The quotient leaves 64 bits, or would by rounding.
		{api.Acc{Hi: 1}, 1, 0, false}, {api.Acc{Hi: 2, Lo: 1<<64 - 1}, 3, 0, false}, {api.Acc{Lo: 1<<64 - 1}, 1, 0, false}, {api.Acc{Hi: 3}, 3, 0, false}, {api.Acc{Hi: 4}, 3, 0, false},
		{api.Acc{Hi: math.MaxInt64, Lo: 1<<64 - 1}, math.MaxInt64, 0, false}, {api.Acc{Hi: math.MinInt64}, math.MaxInt64, 0, false}, {api.Acc{Hi: math.MinInt64}, 1, 0, false}, {api.Acc{Hi: math.MaxInt64, Lo: 1<<64 - 1}, 1, 0, false},
		// By the greatest int.
		{api.Acc{Lo: api.Most}, math.MaxInt64, 1, true}, {api.Acc{Lo: api.Most / 2}, math.MaxInt64, 0, true}, {api.Acc{Lo: api.Most/2 + 1}, math.MaxInt64, 1, true}, {api.Acc{Hi: 1}, math.MaxInt64, 2, true}, {api.Acc{Hi: -1}, math.MaxInt64, -2, true},
		{api.Acc{Hi: 1<<62 - 1, Lo: 1}, math.MaxInt64, api.Most, true}, {api.Acc{Hi: -1 << 62, Lo: 1<<64 - 1}, math.MaxInt64, -api.Most, true},
	} {
		if got, ok := Mean(c.s, c.n); got != c.want || ok != c.ok {
			t.Errorf("Mean of %v and %d: %d %v, not %d %v", c.s, c.n, got, ok, c.want, c.ok)
		}
		holdMean(t, c.s, c.n)
	}
}

// divisors are ns at the edges, those that are none among them.
func divisors() []int {
	return []int{math.MinInt, math.MinInt + 1, -2, -1, 0, 1, 2, 3, 4, 5, 7, 10, 10000, 65535, 1<<31 - 1, 1 << 31, 1<<31 + 1, 1 << 32, 1<<53 + 1, 1<<62 - 1, 1 << 62, 1<<62 + 1, math.MaxInt - 1, math.MaxInt}
}

// P13.3: sums at the edges of 64 and 128 bits, both signs.
func TestMeanAtEdges(t *testing.T) {
	halves := []uint64{0, 1, 2, 3, 5, 9999, 10000, 1<<31 - 1, 1 << 32, 1<<62 - 1, 1 << 62, 1<<63 - 2, 1<<63 - 1, 1 << 63, 1<<63 + 1, 1<<64 - 3, 1<<64 - 2, 1<<64 - 1}
	for _, high := range halves {
		for _, low := range halves {
			for _, n := range divisors() {
				holdMean(t, api.Acc{Hi: int64(high), Lo: low}, n)
			}
		}
	}
}

// P13.3: sums about a whole number times n, and a half more, up to what is just a number, and just none.
func TestMeanAboutHalves(t *testing.T) {
	for _, n := range divisors() {
		if n < 1 {
			continue
		}
		for _, whole := range []int64{0, 1, 2, 3, 9999, 1 << 32, 1 << 62, api.Most - 2, api.Most - 1, api.Most} {
			sum := new(big.Int).Mul(big.NewInt(whole), big.NewInt(int64(n)))
			half := new(big.Int).Add(sum, big.NewInt(int64(n/2)))
			for beside := int64(-2); beside <= 2; beside++ {
				for _, from := range []*big.Int{sum, half} {
					x := new(big.Int).Add(from, big.NewInt(beside))
					holdMean(t, sumOf(x), n)
					holdMean(t, sumOf(x.Neg(x)), n)
				}
			}
		}
	}
}

// P13.3: sums and ns of all sizes, by chance.
func TestMeanByChance(t *testing.T) {
	c := byChance(3)
	for range 100000 {
		s := sumOf(new(big.Int).Rsh(exact(api.Acc{Hi: int64(c.Uint64()), Lo: c.Uint64()}), uint(c.IntN(128))))
		holdMean(t, s, int(c.Int64()>>c.IntN(63)))
	}
}
