package fix

import (
	"math"
	"math/big"
	"testing"

	"cadastre/api"
)

// sums: those where carries, signs and the bounds of 128 bits change.
func sums() []api.Acc {
	var l []api.Acc
	for _, hi := range []int64{0, 1, -1, 2, -2, 1 << 40, math.MaxInt64, math.MinInt64, math.MinInt64 + 1} {
		for _, lo := range []uint64{0, 1, 5000, 1<<63 - 1, 1 << 63, 1<<63 + 1, math.MaxUint64 - 1, math.MaxUint64} {
			l = append(l, api.Acc{Hi: hi, Lo: lo})
		}
	}
	return l
}

// total is the sum of all of l, in their order.
func total(l []int64) api.Acc {
	s := api.Acc{}
	for _, a := range l {
		s = Plus(s, a)
	}
	return s
}

// P1.3: Plus and Less are modulo 2^128, of any int64.
func TestSumsAreOf128Bits(t *testing.T) {
	for _, s := range sums() {
		for _, a := range edges() {
			plus := modulo(new(big.Int).Add(asWhole(s), whole(a)))
			if asWhole(Plus(s, a)).Cmp(plus) != 0 {
				t.Error("Plus of", s, a, "is", Plus(s, a))
			}
			less := modulo(new(big.Int).Sub(asWhole(s), whole(a)))
			if asWhole(Less(s, a)).Cmp(less) != 0 {
				t.Error("Less of", s, a, "is", Less(s, a))
			}
		}
	}
}

// P1.3: the least int64, which is no number, is added all the same; a sum goes round at 2^128.
func TestSumsByHand(t *testing.T) {
	for _, c := range []struct {
		name      string
		got, want api.Acc
	}{
		{"Plus of the least", Plus(api.Acc{}, least), api.Acc{Hi: -1, Lo: 1 << 63}},
		{"Less of the least", Less(api.Acc{}, least), api.Acc{Hi: 0, Lo: 1 << 63}},
		{"a carry", Plus(api.Acc{Lo: math.MaxUint64}, 1), api.Acc{Hi: 1}},
		{"a borrow", Less(api.Acc{Hi: 1}, 1), api.Acc{Lo: math.MaxUint64}},
		{"below 0", Plus(api.Acc{}, -1), api.Acc{Hi: -1, Lo: math.MaxUint64}},
		{"up to 0", Plus(api.Acc{Hi: -1, Lo: math.MaxUint64}, 1), api.Acc{}},
		{"round at the top", Plus(api.Acc{Hi: math.MaxInt64, Lo: math.MaxUint64}, 1), api.Acc{Hi: math.MinInt64}},
		{"round at the bottom", Less(api.Acc{Hi: math.MinInt64}, 1), api.Acc{Hi: math.MaxInt64, Lo: math.MaxUint64}},
	} {
		if c.got != c.want {
			t.Error(c.name, "is", c.got, "not", c.want)
		}
	}
}

// P1.3: Told is the sum as a number, 0 and false where it is none.
func TestTold(t *testing.T) {
	for _, c := range []struct {
		s    api.Acc
		want asked
	}{
		{api.Acc{}, asked{0, true}},
		{api.Acc{Lo: 5}, asked{5, true}},
		{api.Acc{Hi: -1, Lo: math.MaxUint64}, asked{-1, true}},
		{api.Acc{Lo: api.Most}, asked{api.Most, true}},
		{api.Acc{Lo: api.Most + 1}, asked{}},
		{api.Acc{Lo: math.MaxUint64}, asked{}},
		{api.Acc{Hi: -1, Lo: 1<<63 + 1}, asked{-api.Most, true}},
		{api.Acc{Hi: -1, Lo: 1 << 63}, asked{}},
		{api.Acc{Hi: -1, Lo: 1<<63 - 1}, asked{}},
		{api.Acc{Hi: -1}, asked{}},
		{api.Acc{Hi: 1}, asked{}},
		{api.Acc{Hi: 1, Lo: 5}, asked{}},
		{api.Acc{Hi: -2, Lo: math.MaxUint64}, asked{}},
		{api.Acc{Hi: math.MaxInt64, Lo: 5}, asked{}},
		{api.Acc{Hi: math.MinInt64, Lo: 5}, asked{}},
	} {
		check(t, "Told", got(Told(c.s)), c.want, c.s.Hi, int64(c.s.Lo))
	}
	for _, a := range edges() {
		check(t, "Told", got(Told(total([]int64{a}))), got(asNumber(whole(a), a)), a)
	}
}

// P1.4: Less of Plus is the sum that it was, and the other way round.
func TestSumsThereAndBack(t *testing.T) {
	for _, s := range sums() {
		for _, a := range edges() {
			if Less(Plus(s, a), a) != s || Plus(Less(s, a), a) != s {
				t.Error("there and back:", s, a)
			}
		}
	}
}

// P1.5: a sum is the same in any order, and Told of it is what its numbers are together, whatever it went through.
func TestSumsInAnyOrder(t *testing.T) {
	for _, l := range [][]int64{
		{api.Most, api.Most, -api.Most},
		{-api.Most, -api.Most, api.Most, 1},
		{1, 2, -3, 10000, -9999},
		{api.Most, 1, -1, -api.Most},
		{api.Most, api.Most, 5, -5},
		{-api.Most, -1, 0, 1},
		{12500, 1 << 62, 1 << 62, -1 << 62, -7},
	} {
		want := new(big.Int)
		for _, a := range l {
			want.Add(want, whole(a))
		}
		first := total(l)
		check(t, "Told", got(Told(first)), got(asNumber(want)), l...)
		inAllOrders(l, func(other []int64) {
			if total(other) != first {
				t.Error("another sum in another order:", other)
			}
		})
	}
}

// P1.5: likewise of many numbers, there and from behind.
func TestLongSumsInAnyOrder(t *testing.T) {
	there, back := api.Acc{}, api.Acc{}
	want := new(big.Int)
	var l []int64
	pairs(func(a, b int64) { l = append(l, a, b) })
	for i := range l {
		there = Plus(there, l[i])
		back = Plus(back, l[len(l)-1-i])
		want.Add(want, whole(l[i]))
	}
	if there != back || asWhole(there).Cmp(modulo(want)) != 0 {
		t.Error("long sums:", there, back, want)
	}
}

// inAllOrders shows l in each of its orders.
func inAllOrders(l []int64, see func([]int64)) {
	var choose func(done, left []int64)
	choose = func(done, left []int64) {
		if len(left) == 0 {
			see(done)
		}
		for i := range left {
			rest := append(append([]int64{}, left[:i]...), left[i+1:]...)
			choose(append(append([]int64{}, done...), left[i]), rest)
		}
	}
	choose(nil, l)
}
