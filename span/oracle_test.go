package span

import (
	"math"
	"math/big"
	"slices"

	"cadastre/api"
)

// The oracle cuts all ints at the points where a set may begin or end, asks for the first number of each piece whether it is in, and joins the pieces that are.

// in: whether n is a number of one of l's spans, as the chapter says what a span is.
func in(l []api.Span, n int) bool {
	for _, s := range l {
		if n >= s.From && n < s.To {
			return true
		}
	}
	return false
}

// ends: From and To of all spans of the lists.
func ends(lists ...[]api.Span) []int {
	var out []int
	for _, l := range lists {
		for _, s := range l {
			out = append(out, s.From, s.To)
		}
	}
	return out
}

// around: the points, and those beside them, that are ints.
func around(points ...int) []int {
	var out []int
	for _, p := range points {
		out = append(out, p)
		if p > math.MinInt {
			out = append(out, p-1)
		}
		if p < math.MaxInt {
			out = append(out, p+1)
		}
	}
	return out
}

// plainOf: the plain form of the numbers that are in, if that changes at points alone.
func plainOf(points []int, in func(n int) bool) []api.Span {
	points = append(slices.Clone(points), math.MinInt, math.MaxInt)
	slices.Sort(points)
	points = slices.Compact(points)
	var out []api.Span
	open := false
	for i := 0; i+1 < len(points); i++ {
		switch is := in(points[i]); {
		case is && open:
			out[len(out)-1].To = points[i+1]
		case is:
			out = append(out, api.Span{From: points[i], To: points[i+1]})
			open = true
		default:
			open = false
		}
	}
	return out
}

func wantNorm(l []api.Span) []api.Span {
	return plainOf(ends(l), func(n int) bool { return in(l, n) })
}

func wantUnion(a, b []api.Span) []api.Span {
	return plainOf(ends(a, b), func(n int) bool { return in(a, n) || in(b, n) })
}

func wantMeet(a, b []api.Span) []api.Span {
	return plainOf(ends(a, b), func(n int) bool { return in(a, n) && in(b, n) })
}

func wantMinus(a, b []api.Span) []api.Span {
	return plainOf(ends(a, b), func(n int) bool { return in(a, n) && !in(b, n) })
}

func wantOpened(l []api.Span, at int) []api.Span {
	return plainOf(around(append(ends(l), at)...), func(n int) bool {
		switch {
		case n < at:
			return in(l, n)
		case n > at:
			return in(l, n-1)
		}
		return at > math.MinInt && in(l, at-1) && in(l, at)
	})
}

func wantClosed(l []api.Span, at int) []api.Span {
	return plainOf(around(append(ends(l), at)...), func(n int) bool {
		if n < at {
			return in(l, n)
		}
		return n < math.MaxInt && in(l, n+1)
	})
}

func wantCount(l []api.Span) uint64 {
	sum := new(big.Int)
	for _, s := range wantNorm(l) {
		sum.Add(sum, new(big.Int).Sub(big.NewInt(int64(s.To)), big.NewInt(int64(s.From))))
	}
	return sum.Mod(sum, new(big.Int).Lsh(big.NewInt(1), 64)).Uint64()
}

// isPlain: the spans are not empty, rise, and have a number between two of them.
func isPlain(l []api.Span) bool {
	for i, s := range l {
		if s.To <= s.From || i > 0 && s.From <= l[i-1].To {
			return false
		}
	}
	return true
}
