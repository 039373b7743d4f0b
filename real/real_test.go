package real

import (
	"cmp"
	"math"
	"math/big"
	"slices"
	"testing"

	"cadastre/api"
)

// P2.1: against fractions without bounds.
func TestFromIsTheNearest(t *testing.T) {
	for _, f := range floats() {
		n, ok := From(math.Float64bits(f))
		if want, can := fromFloat(f); n != want || ok != can {
			t.Errorf("From of %g: %d %v, not %d %v", f, n, ok, want, can)
		}
	}
}

// P2.1: by hand, the chapter's examples among them.
func TestFromByHand(t *testing.T) {
	for _, c := range []struct {
		f    float64
		want int64
	}{
		{0.1, 1000}, {-0.1, -1000}, {1, 10000}, {-3, -30000}, {2.5, 25000}, {0.00014, 1}, {0.00016, 2},
		{0.03125, 312}, {-0.03125, -312}, {0.09375, 938}, {-0.09375, -938}, {0.15625, 1562}, {0.21875, 2188},
		{math.Nextafter(0.03125, 1), 313}, {math.Nextafter(0.09375, 0), 937}, {math.Nextafter(-0.09375, 0), -937},
		{0, 0}, {math.Copysign(0, -1), 0}, {1e-9, 0}, {-1e-9, 0}, {0.00004, 0}, {-0.00004, 0}, {0.00006, 1}, {-0.00006, -1},
		{math.SmallestNonzeroFloat64, 0}, {-math.SmallestNonzeroFloat64, 0}, {0x1p-1022, 0}, {0x1.8p-15, 0}, {0x1p-14, 1},
		{0x1p48, 10000 << 48}, {0x1p49, 10000 << 49}, {9e14, 9e18}, {922337203685477.5, 9223372036854775000},
		{-922337203685477.5, -9223372036854775000}, {922337203685477.375, 9223372036854773750},
	} {
		if n, ok := From(math.Float64bits(c.f)); n != c.want || !ok {
			t.Errorf("From of %g: %d %v, not %d", c.f, n, ok, c.want)
		}
	}
}

// P2.1: what has no number.
func TestFromOfNone(t *testing.T) {
	for _, b := range []uint64{
		0x7ff8000000000000, 0xfff8000000000000, 0x7ff0000000000001, 0xfff0000000000001, 0x7fffffffffffffff, 0xffffffffffffffff,
		0x7ff0000000000000, 0xfff0000000000000,
		math.Float64bits(922337203685477.625), math.Float64bits(-922337203685477.625),
		math.Float64bits(0x1p50), math.Float64bits(1e15), math.Float64bits(-1e15), math.Float64bits(0x1p52),
		math.Float64bits(1844674407370955.25), math.Float64bits(0x1p64), math.Float64bits(0x1p128),
		math.Float64bits(1e300), math.Float64bits(-1e300), math.Float64bits(math.MaxFloat64),
	} {
		if n, ok := From(b); n != 0 || ok {
			t.Errorf("From of %x: %d %v", b, n, ok)
		}
	}
}

// P2.2: against fractions without bounds.
func TestToIsTheNearest(t *testing.T) {
	for _, a := range numbers() {
		b, ok := To(a)
		if want, can := toFloat(a); b != want || ok != can {
			t.Errorf("To of %d: %x %v, not %x %v", a, b, ok, want, can)
		}
	}
}

// P2.2: by hand.
func TestToByHand(t *testing.T) {
	for _, c := range []struct {
		a    int64
		want float64
	}{
		{0, 0}, {1, 0.0001}, {-1, -0.0001}, {1000, 0.1}, {-25000, -2.5}, {10000, 1}, {3333, 0.3333},
		{api.Most, 922337203685477.5807}, {-api.Most, -922337203685477.5807}, {10000 << 49, 0x1p49},
		{1 << 52, 450359962737.0496}, {1<<52 - 1, 450359962737.0495}, {1<<53 + 1, 900719925474.0993},
		// Halves, to either side: to the float whose lowest bit is 0.
		{625 * (1<<53 + 1), 0x1p49}, {625 * (1<<53 + 3), 0x1.0000000000002p49}, {-625 * (1<<53 + 1), -0x1p49},
		{625*(1<<53+1) + 1, 0x1.0000000000001p49}, {625*(1<<53+3) - 1, 0x1.0000000000001p49},
	} {
		if b, ok := To(c.a); b != math.Float64bits(c.want) || !ok {
			t.Errorf("To of %d: %x %v, not %g", c.a, b, ok, c.want)
		}
	}
	if b, ok := To(least); b != 0 || ok {
		t.Errorf("To of the least: %x %v", b, ok)
	}
}

// P2.3: against whole numbers without bounds.
func TestRootIsTheGreatest(t *testing.T) {
	for _, a := range append(numbers(), least) {
		x, ok := Root(a)
		if want, can := rootOf(a); x != want || ok != can {
			t.Errorf("Root of %d: %d %v, not %d %v", a, x, ok, want, can)
		}
	}
}

// P2.3: by hand, the chapter's example among them.
func TestRootByHand(t *testing.T) {
	for _, c := range []struct{ a, want int64 }{
		{0, 0}, {1, 100}, {2, 141}, {3, 173}, {4, 200}, {100, 1000}, {99, 994}, {2500, 5000}, {2499, 4998},
		{9999, 9999}, {10000, 10000}, {10001, 10000}, {10002, 10000}, {10003, 10001},
		{20000, 14142}, {39999, 19999}, {40000, 20000}, {89999, 29999}, {90000, 30000}, {1000000, 100000},
		{999999, 99999}, {4000000000000000000, 200000000000}, {3999999999999999999, 199999999999}, {api.Most, 303700049997},
	} {
		if x, ok := Root(c.a); x != c.want || !ok {
			t.Errorf("Root of %d: %d %v, not %d", c.a, x, ok, c.want)
		}
	}
	for _, a := range []int64{-1, -10000, -api.Most, least} {
		if x, ok := Root(a); x != 0 || ok {
			t.Errorf("Root of %d: %d %v", a, x, ok)
		}
	}
}

// P2.5: there and back.
func TestThereAndBack(t *testing.T) {
	for _, a := range numbers() {
		if a <= -1<<52 || a >= 1<<52 {
			continue
		}
		b, _ := To(a)
		if n, ok := From(b); n != a || !ok {
			t.Errorf("From of To of %d: %d %v", a, n, ok)
		}
	}
}

// P2.6: the greater float has not the lesser number.
func TestFromRises(t *testing.T) {
	l := floats()
	slices.Sort(l)
	before := int64(least)
	for _, f := range l {
		n, ok := From(math.Float64bits(f))
		if !ok {
			continue
		}
		if n < before {
			t.Errorf("From of %g: %d below %d", f, n, before)
		}
		before = n
	}
}

// P2.6: the greater number has not the lesser float.
func TestToRises(t *testing.T) {
	l := numbers()
	slices.Sort(l)
	before := math.Inf(-1)
	for _, a := range l {
		b, ok := To(a)
		f := math.Float64frombits(b)
		if !ok || cmp.Less(f, before) {
			t.Errorf("To of %d: %g %v below %g", a, f, ok, before)
		}
		before = f
	}
}

// P2.7: the root's square is not above a, the next number's is.
func TestRootIsARoot(t *testing.T) {
	square := func(x int64) *big.Int { return new(big.Int).Mul(big.NewInt(x), big.NewInt(x)) }
	for _, a := range numbers() {
		if a < 0 {
			continue
		}
		x, ok := Root(a)
		exact := new(big.Int).Mul(big.NewInt(a), big.NewInt(api.One))
		if !ok || x < 0 || square(x).Cmp(exact) > 0 || square(x+1).Cmp(exact) <= 0 {
			t.Errorf("Root of %d: %d %v", a, x, ok)
		}
	}
}
