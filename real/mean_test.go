package real

import (
	"math"
	"slices"
	"testing"
)

func bitsOf(l ...float64) []uint64 {
	var b []uint64
	for _, f := range l {
		b = append(b, math.Float64bits(f))
	}
	return b
}

// P2.4: against fractions, each sum rounded apart.
func TestMeanAddsInOrder(t *testing.T) {
	l := floats()
	next := made()
	for range 3000 {
		var some []uint64
		for range next() % 7 {
			some = append(some, math.Float64bits(l[next()%uint64(len(l))]))
		}
		if m, want := Mean(some), meanOf(some); m != want {
			t.Errorf("Mean of %x: %x, not %x", some, m, want)
		}
	}
}

// P2.4: by hand, the chapter's example among them.
func TestMeanByHand(t *testing.T) {
	inf, zero := math.Inf(1), math.Copysign(0, -1)
	tiny := math.SmallestNonzeroFloat64
	for _, c := range []struct {
		l    []float64
		want float64
	}{
		{[]float64{2.5}, 2.5},
		{[]float64{-0.1}, -0.1},
		{[]float64{1, 2}, 1.5},
		{[]float64{1, 2, 2}, 5.0 / 3},
		{[]float64{0}, 0},
		{[]float64{zero}, 0},
		{[]float64{zero, zero}, 0},
		{[]float64{1, -1}, 0},
		{[]float64{-tiny}, -tiny},
		{[]float64{-tiny, 0, 0}, zero},
		{[]float64{inf}, inf},
		{[]float64{inf, 1, inf}, inf},
		{[]float64{-inf, 1e300}, -inf},
		// Too great together, though the mean would not be.
		{[]float64{math.MaxFloat64, math.MaxFloat64}, inf},
		{[]float64{-math.MaxFloat64, -math.MaxFloat64, math.MaxFloat64}, -inf},
		{[]float64{math.MaxFloat64, -math.MaxFloat64, math.MaxFloat64}, math.MaxFloat64 / 3},
		// In their order, and each sum rounded.
		{[]float64{0x1p53, 1, 1, -0x1p53}, 0},
		{[]float64{1, 1, 0x1p53, -0x1p53}, 0.5},
		{[]float64{0x1p53, -0x1p53, 1, 1}, 0.5},
	} {
		if m := Mean(bitsOf(c.l...)); m != math.Float64bits(c.want) {
			t.Errorf("Mean of %g: %x, not %g", c.l, m, c.want)
		}
	}
}

// P2.4: of none, and where a NaN comes, whatever its bits.
func TestMeanOfNaN(t *testing.T) {
	inf := math.Inf(1)
	for _, l := range [][]uint64{
		nil, {}, bitsOf(inf, -inf), bitsOf(-inf, 3, inf), bitsOf(1, math.NaN(), 2), bitsOf(math.MaxFloat64, math.MaxFloat64, -inf),
		{0x7ff8000000000000}, {0xfff8000000000000}, {0x7ff0000000000001}, {0xfff0000000000001, 0}, {0xffffffffffffffff},
	} {
		if m := Mean(l); m != 0x7ff8000000000000 {
			t.Errorf("Mean of %x: %x", l, m)
		}
	}
}

// P2.4: of many, one after the other.
func TestMeanOfMany(t *testing.T) {
	var l []uint64
	sum := 0.0
	for n := range 10000 {
		f := 1 / float64(n+1)
		sum += f
		l = append(l, math.Float64bits(f))
	}
	if m := Mean(l); m != math.Float64bits(sum/10000) {
		t.Errorf("Mean of many: %x", m)
	}
}

func TestMeanLeavesItsList(t *testing.T) {
	l := bitsOf(1, 2, 3, 4)
	kept := slices.Clone(l)
	Mean(l[:2])
	if !slices.Equal(l, kept) {
		t.Error("the list was changed:", l)
	}
}
