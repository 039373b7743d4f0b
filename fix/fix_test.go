package fix

import (
	"math"
	"math/big"
	"testing"

	"cadastre/api"
)

func TestCanIsAllButTheLeast(t *testing.T) {
	for _, a := range edges() {
		if Can(a) != (a != math.MinInt64) {
			t.Error("Can of", a)
		}
	}
	if !Can(math.MinInt64 + 1) {
		t.Error("Can of the least number")
	}
}

// P1.1: the four ways of reckoning, against whole numbers without bounds.
func TestReckonsExactly(t *testing.T) {
	one := whole(api.One)
	pairs(func(a, b int64) {
		x, y := whole(a), whole(b)
		check(t, "Add", got(Add(a, b)), got(asNumber(new(big.Int).Add(x, y), a, b)), a, b)
		check(t, "Sub", got(Sub(a, b)), got(asNumber(new(big.Int).Sub(x, y), a, b)), a, b)
		check(t, "Mul", got(Mul(a, b)), got(asNumber(nearest(times(x, y), one), a, b)), a, b)
		var quotient *big.Int
		if b != 0 {
			quotient = nearest(times(x, one), y)
		}
		check(t, "Div", got(Div(a, b)), got(asNumber(quotient, a, b)), a, b)
	})
}

// P1.1: by hand, the chapter's examples among them.
func TestReckonsByHand(t *testing.T) {
	const most = api.Most
	none := asked{}
	for _, c := range []struct {
		name string
		call func(a, b int64) (int64, bool)
		a, b int64
		want asked
	}{
		{"Add", Add, 12500, -2500, asked{10000, true}},
		{"Add", Add, most, 0, asked{most, true}},
		{"Add", Add, most - 1, 1, asked{most, true}},
		{"Add", Add, most, 1, none},
		{"Add", Add, most, most, none},
		{"Add", Add, -most, -1, none},
		{"Add", Add, -most, -most, none},
		{"Add", Add, least, 5, none},
		{"Add", Add, 5, least, none},
		{"Add", Add, least, least, none},
		{"Sub", Sub, 12500, 2500, asked{10000, true}},
		{"Sub", Sub, most, most, asked{0, true}},
		{"Sub", Sub, -most, -most, asked{0, true}},
		{"Sub", Sub, -most, 1, none},
		{"Sub", Sub, most, -1, none},
		{"Sub", Sub, 0, least, none},
		{"Sub", Sub, -1, least, none},
		{"Sub", Sub, least, least, none},
		{"Mul", Mul, 15000, 15000, asked{22500, true}},
		{"Mul", Mul, 1, 4999, asked{0, true}},
		{"Mul", Mul, 1, 5000, asked{1, true}},
		{"Mul", Mul, -1, 5000, asked{-1, true}},
		{"Mul", Mul, -1, -5000, asked{1, true}},
		{"Mul", Mul, 3, 5000, asked{2, true}},
		{"Mul", Mul, -3, 5000, asked{-2, true}},
		{"Mul", Mul, most, 10000, asked{most, true}},
		{"Mul", Mul, -most, 10000, asked{-most, true}},
		{"Mul", Mul, most, -10000, asked{-most, true}},
		{"Mul", Mul, most, 10001, none},
		{"Mul", Mul, 1 << 62, 20000, none},
		{"Mul", Mul, -1 << 62, 20000, none},
		{"Mul", Mul, 1 << 62, 40000, none},
		{"Mul", Mul, most, most, none},
		{"Mul", Mul, least, 0, none},
		{"Mul", Mul, 0, least, none},
		{"Mul", Mul, least, 1, none},
		{"Div", Div, 10000, 30000, asked{3333, true}},
		{"Div", Div, 20000, 30000, asked{6667, true}},
		{"Div", Div, -20000, 30000, asked{-6667, true}},
		{"Div", Div, 20000, -30000, asked{-6667, true}},
		{"Div", Div, -20000, -30000, asked{6667, true}},
		{"Div", Div, 1, 20000, asked{1, true}},
		{"Div", Div, -1, 20000, asked{-1, true}},
		{"Div", Div, 1, 20001, asked{0, true}},
		{"Div", Div, most, most, asked{10000, true}},
		{"Div", Div, most, -10000, asked{-most, true}},
		{"Div", Div, 1, most, asked{0, true}},
		{"Div", Div, most, 9999, none},
		{"Div", Div, most, 5000, none},
		{"Div", Div, most, 1, none},
		{"Div", Div, -most, 1, none},
		{"Div", Div, 1, 0, none},
		{"Div", Div, 0, 0, none},
		{"Div", Div, least, 0, none},
		{"Div", Div, least, 10000, none},
		{"Div", Div, 10000, least, none},
		{"Div", Div, 0, least, none},
	} {
		check(t, c.name, got(c.call(c.a, c.b)), c.want, c.a, c.b)
	}
}

// P1.1: what rounds to 2^63, or to 2^64, which has more than 64 bits, from below is none.
func TestRoundingBeyondMost(t *testing.T) {
	one := whole(api.One)
	for _, n := range []uint{63, 64} {
		products, quotients := 0, 0
		for b := int64(1); b < 200000; b++ {
			if a, ok := justBelow(n, whole(b), one); ok {
				products++
				check(t, "Mul", got(Mul(a, b)), asked{}, a, b)
				check(t, "Mul", got(Mul(-a, b)), asked{}, -a, b)
			}
			if a, ok := justBelow(n, one, whole(b)); ok {
				quotients++
				check(t, "Div", got(Div(a, b)), asked{}, a, b)
				check(t, "Div", got(Div(a, -b)), asked{}, a, -b)
			}
		}
		if products == 0 || quotients == 0 {
			t.Error("nothing was just below:", n, products, quotients)
		}
	}
}

// justBelow is the number that, times b by c, is below 2 to the power of n, but rounds to it.
func justBelow(n uint, b, c *big.Int) (int64, bool) {
	top := new(big.Int).Lsh(big.NewInt(1), n)
	a := new(big.Int).Sub(times(top, c), big.NewInt(1))
	a.Quo(a, b)
	if !a.IsInt64() || nearest(times(a, b), c).Cmp(top) != 0 {
		return 0, false
	}
	return a.Int64(), true
}

// P1.2: Floor and Mod, against whole numbers without bounds.
func TestFloorAndMod(t *testing.T) {
	one := whole(api.One)
	for _, a := range edges() {
		check(t, "Floor", got(Floor(a)), got(asNumber(times(one, under(whole(a), one)), a)), a)
	}
	pairs(func(a, b int64) {
		var rest *big.Int
		if b != 0 {
			x, y := whole(a), whole(b)
			rest = x.Sub(x, times(y, under(x, y)))
		}
		check(t, "Mod", got(Mod(a, b)), got(asNumber(rest, a, b)), a, b)
	})
}

// P1.2: Floor and Mod by hand, the chapter's example among them.
func TestFloorAndModByHand(t *testing.T) {
	for _, c := range []struct {
		a    int64
		want asked
	}{
		{0, asked{0, true}}, {1, asked{0, true}}, {9999, asked{0, true}}, {10000, asked{10000, true}},
		{-1, asked{-10000, true}}, {-10000, asked{-10000, true}}, {-10001, asked{-20000, true}},
		{api.Most, asked{api.Most - 5807, true}}, {-api.Most + 5807, asked{-api.Most + 5807, true}},
		{-api.Most + 5806, asked{}}, {-api.Most, asked{}}, {least, asked{}},
	} {
		check(t, "Floor", got(Floor(c.a)), c.want, c.a)
	}
	for _, c := range []struct {
		a, b int64
		want asked
	}{
		{-10000, 30000, asked{20000, true}}, {10000, -30000, asked{-20000, true}},
		{10000, 30000, asked{10000, true}}, {-10000, -30000, asked{-10000, true}},
		{30000, 30000, asked{0, true}}, {-30000, 30000, asked{0, true}}, {30000, -30000, asked{0, true}},
		{0, -30000, asked{0, true}}, {-1, api.Most, asked{api.Most - 1, true}}, {1, -api.Most, asked{-api.Most + 1, true}},
		{1, 0, asked{}}, {0, 0, asked{}}, {least, 0, asked{}}, {least, -1, asked{}}, {least, 1, asked{}}, {1, least, asked{}},
	} {
		check(t, "Mod", got(Mod(c.a, c.b)), c.want, c.a, c.b)
	}
}

// rounded is Round as the chapter says it.
func rounded(a int64, digits int) (int64, bool) {
	if digits >= 4 {
		return asNumber(whole(a), a)
	}
	if digits < -14 {
		return asNumber(whole(0), a)
	}
	p := ten(4 - digits)
	return asNumber(times(p, nearest(whole(a), p)), a)
}

// P1.2: Round, with all digits that change anything, and far beyond them.
func TestRound(t *testing.T) {
	digits := []int{math.MinInt, math.MinInt + 1, -1000, 1000, math.MaxInt - 1, math.MaxInt}
	for d := -20; d <= 10; d++ {
		digits = append(digits, d)
	}
	for _, d := range digits {
		pairs(func(a, _ int64) {
			check(t, "Round", got(Round(a, d)), got(rounded(a, d)), a, int64(d))
		})
		if d >= 4 || d < -14 {
			continue
		}
		half := new(big.Int).Quo(ten(4-d), whole(2)).Int64()
		for _, k := range []int64{1, 3, 5} {
			for _, a := range []int64{k*half - 1, k * half, k*half + 1} {
				check(t, "Round", got(Round(a, d)), got(rounded(a, d)), a, int64(d))
				check(t, "Round", got(Round(-a, d)), got(rounded(-a, d)), -a, int64(d))
			}
		}
	}
}

// P1.2: Round by hand, the chapter's examples among them.
func TestRoundByHand(t *testing.T) {
	for _, c := range []struct {
		a      int64
		digits int
		want   asked
	}{
		{-12500, 0, asked{-10000, true}}, {-15000, 0, asked{-20000, true}}, {15000, 0, asked{20000, true}},
		{14999, 0, asked{10000, true}}, {-14999, 0, asked{-10000, true}}, {4999, 0, asked{0, true}}, {5000, 0, asked{10000, true}},
		{12345, 2, asked{12300, true}}, {12345, 3, asked{12350, true}}, {-12345, 3, asked{-12350, true}},
		{12344, 3, asked{12340, true}}, {12345, 4, asked{12345, true}}, {12345, 5, asked{12345, true}},
		{12345, math.MaxInt, asked{12345, true}}, {api.Most, 4, asked{api.Most, true}}, {-api.Most, 99, asked{-api.Most, true}},
		{api.Most, 3, asked{}}, {-api.Most, 3, asked{}}, {api.Most, 0, asked{}}, {-api.Most, 0, asked{}},
		{api.Most, 1, asked{}}, {api.Most, -11, asked{9223000000000000000, true}},
		{api.Most, -14, asked{9000000000000000000, true}}, {-api.Most, -14, asked{-9000000000000000000, true}},
		{500000000000000000, -14, asked{1000000000000000000, true}}, {499999999999999999, -14, asked{0, true}},
		{-500000000000000000, -14, asked{-1000000000000000000, true}}, {8500000000000000000, -14, asked{9000000000000000000, true}},
		{api.Most, -15, asked{0, true}}, {-api.Most, -15, asked{0, true}}, {5, -99, asked{0, true}}, {5, math.MinInt, asked{0, true}},
		{least, 4, asked{}}, {least, 0, asked{}}, {least, -14, asked{}}, {least, -15, asked{}}, {least, math.MinInt, asked{}}, {least, math.MaxInt, asked{}},
	} {
		check(t, "Round", got(Round(c.a, c.digits)), c.want, c.a, int64(c.digits))
	}
}

// P1.4: where Add answers true, Sub of what came and b is a.
func TestAddThereAndBack(t *testing.T) {
	seen := 0
	pairs(func(a, b int64) {
		n, ok := Add(a, b)
		if !ok {
			return
		}
		seen++
		check(t, "Sub of Add", got(Sub(n, b)), asked{a, true}, a, b)
	})
	if seen < 1000 {
		t.Error("too few sums:", seen)
	}
}

// P1.6: Mul times 10000 differs from a times b by at most 5000.
func TestMulIsNear(t *testing.T) {
	seen := 0
	pairs(func(a, b int64) {
		n, ok := Mul(a, b)
		if !ok {
			return
		}
		seen++
		off := new(big.Int).Sub(times(whole(n), whole(api.One)), times(whole(a), whole(b)))
		if off.Abs(off).Cmp(whole(5000)) > 0 {
			t.Error("Mul of", a, b, "is off by", off)
		}
	})
	if seen < 1000 {
		t.Error("too few products:", seen)
	}
}
