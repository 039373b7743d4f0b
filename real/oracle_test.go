package real

import (
	"math"
	"math/big"

	"cadastre/api"
)

// What the chapter's words come to in fractions without bounds, reckoned apart from the package.

const least = math.MinInt64

// fromFloat is P2.1 in fractions.
func fromFloat(f float64) (int64, bool) {
	if math.IsNaN(f) || math.IsInf(f, 0) {
		return 0, false
	}
	exact := new(big.Rat).Mul(new(big.Rat).SetFloat64(f), big.NewRat(api.One, 1))
	n := nearestEven(exact)
	if new(big.Int).Abs(n).Cmp(big.NewInt(api.Most)) > 0 {
		return 0, false
	}
	return n.Int64(), true
}

// nearestEven is the whole number nearest to r, of two the even one.
func nearestEven(r *big.Rat) *big.Int {
	// Of big's divisions Div goes down where the divisor is above 0.
	under := new(big.Int).Div(r.Num(), r.Denom())
	rest := new(big.Rat).Sub(r, new(big.Rat).SetInt(under))
	half := rest.Cmp(big.NewRat(1, 2))
	if half > 0 || half == 0 && under.Bit(0) == 1 {
		under.Add(under, big.NewInt(1))
	}
	return under
}

// toFloat is P2.2 in fractions.
func toFloat(a int64) (uint64, bool) {
	if a == least {
		return 0, false
	}
	f, _ := big.NewRat(a, api.One).Float64()
	return math.Float64bits(f), true
}

// rootOf is P2.3 in whole numbers.
func rootOf(a int64) (int64, bool) {
	if a < 0 {
		return 0, false
	}
	n := new(big.Int).Mul(big.NewInt(a), big.NewInt(api.One))
	return n.Sqrt(n).Int64(), true
}

// meanOf is P2.4 in fractions, each sum rounded apart.
func meanOf(l []uint64) uint64 {
	sum := 0.0
	for _, b := range l {
		sum = together(sum, math.Float64frombits(b))
	}
	if len(l) == 0 || math.IsNaN(sum) {
		return 0x7ff8000000000000
	}
	if sum == 0 || math.IsInf(sum, 0) {
		return math.Float64bits(sum)
	}
	exact := new(big.Rat).SetFloat64(sum)
	mean, _ := exact.Quo(exact, big.NewRat(int64(len(l)), 1)).Float64()
	return math.Float64bits(math.Copysign(mean, sum))
}

func together(a, b float64) float64 {
	switch {
	case math.IsNaN(a) || math.IsNaN(b) || math.IsInf(a, 0) && b == -a:
		return math.NaN()
	case math.IsInf(a, 0):
		return a
	case math.IsInf(b, 0):
		return b
	}
	exact := new(big.Rat).SetFloat64(a)
	f, _ := exact.Add(exact, new(big.Rat).SetFloat64(b)).Float64()
	return f
}

// made tells made-up numbers of 64 bits, the same in every run.
func made() func() uint64 {
	state := uint64(1)
	return func() uint64 {
		state = state*6364136223846793005 + 1442695040888963407
		return state ^ state>>29
	}
}

// floats: the edges of both signs, their neighbours, and made-up floats of all sizes; no NaNs.
func floats() []float64 {
	l := []float64{
		0, math.SmallestNonzeroFloat64, 1e-320, 0x1p-1022, 1e-300, 1e-20, 1e-9, 0x1p-55, 0x1p-20, 0x1p-16, 0x1p-15, 0x1p-14,
		0.00005, 0.0001, 0.00015, 0.00025, 0.1, 0.5, 1, 1.5, 2.5, 3, 10000, 1e8, 0x1p31, 0x1p32, 0x1p48, 0x1p49, 0x1p50, 0x1p51,
		0x1p52, 0x1p53, 0x1p63, 0x1p64, 450359962737.0496, 9e14, 922337203685477, 922337203685477.5, 922337203685477.625,
		922337203685478, 1e15, 1e18, 1e19, 1e300, math.MaxFloat64, math.Inf(1),
	}
	// All of these are halves of a ten thousandth, or whole.
	for n := range 200 {
		l = append(l, float64(n)/32, 1000+float64(n)/32, 0x1p40+float64(n)/32)
	}
	next := made()
	for range 5000 {
		// Of the exponents about those of numbers, and of all.
		l = append(l, math.Float64frombits(next()%(1<<52)|(950+next()%130)<<52))
		l = append(l, math.Float64frombits(next()%(0x7ff<<52)))
	}
	for _, f := range l {
		l = append(l, math.Nextafter(f, 0), math.Nextafter(f, math.Inf(1)))
	}
	for _, f := range l {
		l = append(l, -f)
	}
	return l
}

// numbers: the edges of both signs, their neighbours, and made-up numbers of all sizes.
func numbers() []int64 {
	l := []int64{
		1, 2, 5, 9999, 10000, 10001, 15000, 20000, 1 << 31, 1 << 32, 1<<52 - 2, 1 << 52, 1 << 53, 1 << 54,
		1 << 60, 1 << 62, 9e18, api.Most - 1,
		// By 10000 these are as near to one float as to the next.
		625 * (1<<53 + 1), 625 * (1<<53 + 3), 625 * (1<<53 + 5), 625 * 14757395258967641, 625 * 14757395258967639,
	}
	l = append(l, besideHalves()...)
	next := made()
	for range 10000 {
		l = append(l, int64(next()%(1<<63-2)+1)>>(next()%62))
	}
	for _, a := range l {
		l = append(l, a-1, a+1)
	}
	l = append(l, 0)
	for _, a := range l {
		l = append(l, -a)
	}
	return l
}

// besideHalves: numbers that, by 10000, are as near as can be to the middle of two floats, and are not it.
func besideHalves() []int64 {
	// A middle is an odd number of 54 bits times a power of 2; these have their four upper bits.
	const upper = 7 << 51
	var l []int64
	for zeros := 1; zeros < 46; zeros++ {
		for _, beside := range []uint64{1, 1<<64 - 1} {
			// So 625 times it, and what it is beside, end in so many noughts.
			odd := upper + -beside*inverse(625)%(1<<zeros)
			for range 8 {
				l = append(l, int64((625*odd+beside)>>zeros))
				odd += 1 << zeros
			}
		}
	}
	return l
}

// inverse is what n, which is odd, is to be multiplied by for a 1 modulo 2^64.
func inverse(n uint64) uint64 {
	x := n
	for range 6 {
		x *= 2 - n*x
	}
	return x
}
