package order

import (
	"math"
	"slices"
	"testing"

	"cadastre/api"
)

// The chapter's examples.
func TestExamples(t *testing.T) {
	is(t, 3, [][2]int{{0, 2}}, []int{1, 2, 0}, []int{-1, -1, -1})
	is(t, 2, [][2]int{{0, 1}, {1, 0}}, []int{0, 1}, []int{0, 0})
}

// P17.1: no things, one thing, things that need nothing; pairs that are nil and empty.
func TestNoNeeds(t *testing.T) {
	for _, needs := range [][][2]int{nil, {}, make([][2]int, 0, 8)} {
		for _, n := range []int{0, 1, 2, 3, 10, 63, 64, 65, 1000, 4095, 4096} {
			is(t, n, needs, upTo(n), often(n, -1))
		}
	}
}

// P17.1: n below 0, whatever the pairs are.
func TestBelow(t *testing.T) {
	for _, n := range []int{-1, -2, -4096, -4097, math.MinInt32, math.MinInt, math.MinInt + 1} {
		for _, needs := range [][][2]int{nil, {}, {{0, 0}}, {{-1, -1}}, {{n, n}}, {{0, 1}, {1, 0}}, {{n, 0}}} {
			refused(t, n, needs, api.ErrArg)
		}
	}
}

// P17.1: the limit is itself allowed; above it there is no order, however good the pairs are.
func TestTooMany(t *testing.T) {
	if api.MaxThings != 4096 {
		t.Fatal(api.MaxThings)
	}
	is(t, 4096, nil, upTo(4096), often(4096, -1))
	is(t, 4096, [][2]int{{0, 4095}}, append(upTo(4096)[1:], 0), often(4096, -1))
	for _, n := range []int{4097, 4098, 5000, 8192, 1 << 16, math.MaxInt32, math.MaxInt} {
		for _, needs := range [][][2]int{nil, {}, {{0, 1}}, {{0, 0}}, {{0, n - 1}}, {{n - 1, n - 1}}, {{4096, 4095}, {4095, 4096}}, ring(upTo(4097)...)} {
			refused(t, n, needs, api.ErrLong)
		}
	}
}

// P17.1: a number that is no thing, first or second in its pair, alone or among good ones; ErrArg is named ahead of ErrLong.
func TestNoThing(t *testing.T) {
	for _, n := range []int{0, 1, 2, 5, 4095, 4096, 4097, 5000, 1 << 20} {
		for _, no := range noThings(n) {
			bad := [][2]int{{no, no}}
			if n > 0 {
				bad = append(bad, [2]int{no, 0}, [2]int{0, no}, [2]int{no, n - 1}, [2]int{n - 1, no})
			}
			for _, pair := range bad {
				refused(t, n, [][2]int{pair}, api.ErrArg)
				if n == 0 {
					continue
				}
				good := append(ring(upTo(min(n, 9))...), [2]int{n - 1, 0})
				for at := range len(good) + 1 {
					refused(t, n, slices.Insert(slices.Clone(good), at, pair), api.ErrArg)
				}
			}
		}
	}
	refused(t, 0, [][2]int{{0, 0}}, api.ErrArg)
	refused(t, 0, [][2]int{{-1, -1}}, api.ErrArg)
	refused(t, math.MaxInt, [][2]int{{0, math.MaxInt}}, api.ErrArg)
	refused(t, math.MaxInt, [][2]int{{math.MinInt, 0}}, api.ErrArg)
	// 4096 is no thing of 4096, but one of 4097.
	refused(t, 4096, [][2]int{{4096, 0}}, api.ErrArg)
	refused(t, 4096, [][2]int{{0, 4096}}, api.ErrArg)
	refused(t, 4097, [][2]int{{0, 4096}}, api.ErrLong)
	refused(t, 4097, [][2]int{{0, 4097}}, api.ErrArg)
}

// P17.1: what needs itself alone has its own number, not -1, and hinders nothing.
func TestItself(t *testing.T) {
	is(t, 1, [][2]int{{0, 0}}, []int{0}, []int{0})
	is(t, 3, [][2]int{{1, 1}}, []int{0, 1, 2}, []int{-1, 1, -1})
	is(t, 3, [][2]int{{2, 2}, {0, 0}, {1, 1}}, []int{0, 1, 2}, []int{0, 1, 2})
	is(t, 3, [][2]int{{0, 0}, {0, 2}}, []int{1, 2, 0}, []int{0, -1, -1})
	is(t, 3, [][2]int{{2, 2}, {0, 2}}, []int{1, 2, 0}, []int{-1, -1, 2})
	is(t, 3, [][2]int{{0, 1}, {1, 0}, {0, 0}}, []int{0, 1, 2}, []int{0, 0, -1})
	is(t, 3, [][2]int{{2, 1}, {1, 2}, {2, 2}}, []int{0, 1, 2}, []int{-1, 1, 1})
	for _, n := range []int{2, 100, 4096} {
		is(t, n, each1(n, func(a int) [2]int { return [2]int{a, a} }), upTo(n), upTo(n))
	}
}

// each1 is a pair for each thing.
func each1(n int, pair func(a int) [2]int) [][2]int {
	var out [][2]int
	for a := range n {
		out = append(out, pair(a))
	}
	return out
}

// P17.1: rings of all lengths, along the numbers and against them, and by chance; each group has the number of its least thing.
func TestRings(t *testing.T) {
	c := byChance(1)
	for _, n := range []int{1, 2, 3, 4, 5, 9, 64, 65, 1000, 4095, 4096} {
		for _, needs := range [][][2]int{ring(upTo(n)...), ring(downFrom(n)...), ring(c.Perm(n)...)} {
			is(t, n, needs, upTo(n), often(n, 0))
		}
	}
	// Those about a ring are in no group: 0 leads into it, and it leads to 12.
	for n := 1; n <= 9; n++ {
		for first := 1; first+n <= 12; first++ {
			in := upTo(14)[first : first+n]
			needs := append(ring(in...), [2]int{0, first}, [2]int{in[n-1], 12})
			group := often(14, -1)
			for _, a := range in {
				group[a] = first
			}
			is(t, 14, needs, aboutRing(first, n), group)
			hold(t, 14, needs)
		}
	}
}

// aboutRing is the order of 14 things with a ring of n, of which 0 needs the first, and the last needs 12.
func aboutRing(first, n int) []int {
	last := first + n - 1
	var list []int
	for a := 1; a <= 12; a++ {
		if a != last {
			list = append(list, a)
		}
		if a == first && n > 1 {
			list = append(list, 0)
		}
	}
	list = append(list, last)
	if n == 1 {
		list = append(list, 0)
	}
	return append(list, 13)
}

// P17.1: a thing that only leads into a ring, or out of one, or from one ring to another, is in no group.
func TestAboutRings(t *testing.T) {
	is(t, 4, [][2]int{{0, 1}, {1, 2}, {2, 1}}, []int{1, 0, 2, 3}, []int{-1, 1, 1, -1})
	is(t, 4, [][2]int{{0, 2}, {1, 2}, {2, 1}}, []int{1, 2, 0, 3}, []int{-1, 1, 1, -1})
	is(t, 4, [][2]int{{1, 0}, {1, 2}, {2, 1}}, []int{0, 1, 2, 3}, []int{-1, 1, 1, -1})
	is(t, 4, [][2]int{{1, 3}, {1, 2}, {2, 1}}, []int{0, 2, 3, 1}, []int{-1, 1, 1, -1})
	is(t, 5, [][2]int{{0, 1}, {1, 0}, {1, 2}, {2, 3}, {3, 4}, {4, 3}}, []int{0, 3, 2, 1, 4}, []int{0, 0, -1, 3, 3})
	is(t, 5, [][2]int{{3, 4}, {4, 3}, {4, 2}, {2, 1}, {1, 0}, {0, 1}}, []int{0, 1, 2, 3, 4}, []int{0, 0, -1, 3, 3})
	// A chain of two leads into each of two rings, and out of them.
	needs := slices.Concat(ring(3, 7), ring(4, 6), chain(0, 1, 3), chain(0, 6), chain(7, 8, 9), chain(4, 9))
	is(t, 10, needs, []int{2, 3, 1, 5, 6, 0, 9, 4, 8, 7}, []int{-1, -1, -1, 3, 4, -1, 4, 3, -1, -1})
	hold(t, 10, needs)
}

// P17.1: rings that meet in one thing are one group; rings that need other rings are not.
func TestRingsOfRings(t *testing.T) {
	is(t, 5, slices.Concat(ring(1, 3), ring(3, 2, 4)), []int{0, 1, 2, 3, 4}, []int{-1, 1, 1, 1, 1})
	is(t, 5, slices.Concat(ring(4, 0), ring(4, 1), ring(4, 2), ring(4, 3)), upTo(5), often(5, 0))
	is(t, 6, slices.Concat(ring(0, 5), ring(1, 4), ring(2, 3)), upTo(6), []int{0, 1, 2, 2, 1, 0})
	// 0 and 5 need 1 and 4, which need 2 and 3: of each ring one thing may come ahead of what the other one needs.
	is(t, 6, slices.Concat(ring(0, 5), ring(1, 4), ring(2, 3), [][2]int{{0, 1}, {1, 2}}), []int{2, 1, 0, 3, 4, 5}, []int{0, 1, 2, 2, 1, 0})
	is(t, 6, slices.Concat(ring(0, 5), ring(1, 4), ring(2, 3), [][2]int{{0, 4}, {4, 3}}), []int{1, 2, 3, 4, 0, 5}, []int{0, 1, 2, 2, 1, 0})
	is(t, 6, slices.Concat(ring(0, 5), ring(1, 4), ring(2, 3), [][2]int{{0, 4}, {4, 3}, {3, 0}}), upTo(6), often(6, 0))
	// Eight rings of eight, each in need of the next one: no pair leads back.
	var needs, back [][2]int
	var group []int
	for r := range 8 {
		needs = append(needs, ring(upTo(64)[8*r:8*r+8]...)...)
		if r < 7 {
			needs = append(needs, [2]int{8*r + 3, 8*r + 12})
		}
		group = append(group, often(8, 8*r)...)
	}
	_, got, _ := Sort(64, needs)
	if !slices.Equal(got, group) {
		t.Errorf("eight rings: %v", got)
	}
	hold(t, 64, needs)
	// With one that does, they are one.
	back = append(slices.Clone(needs), [2]int{63, 0})
	is(t, 64, back, upTo(64), often(64, 0))
	for r := range 8 {
		// From the fourth on all are one, as far as it goes.
		back = append(slices.Clone(needs), [2]int{8*r + 1, 24})
		hold(t, 64, back)
	}
}

// P17.1: the least thing that may come, again and again.
func TestOrder(t *testing.T) {
	for _, try := range []struct {
		n     int
		needs [][2]int
		list  []int
	}{
		{3, [][2]int{{1, 0}}, []int{0, 1, 2}},
		{3, [][2]int{{2, 0}, {2, 1}}, []int{0, 1, 2}},
		{3, [][2]int{{0, 1}}, []int{1, 0, 2}},
		{3, [][2]int{{0, 1}, {0, 2}}, []int{1, 2, 0}},
		{3, [][2]int{{0, 1}, {1, 2}}, []int{2, 1, 0}},
		{3, [][2]int{{1, 2}}, []int{0, 2, 1}},
		{3, [][2]int{{0, 2}, {1, 2}}, []int{2, 0, 1}},
		{5, [][2]int{{0, 4}}, []int{1, 2, 3, 4, 0}},
		{5, [][2]int{{1, 4}, {0, 3}}, []int{2, 3, 0, 4, 1}},
		{5, [][2]int{{0, 2}, {1, 2}, {3, 2}, {4, 2}}, []int{2, 0, 1, 3, 4}},
		{5, [][2]int{{0, 4}, {1, 4}, {2, 4}, {3, 4}}, []int{4, 0, 1, 2, 3}},
		{6, [][2]int{{0, 5}, {5, 3}, {1, 0}, {2, 4}}, []int{3, 4, 2, 5, 0, 1}},
		{7, [][2]int{{0, 6}, {2, 5}, {1, 3}, {6, 4}}, []int{3, 1, 4, 5, 2, 6, 0}},
		// 10 comes behind 2: by number, not by text.
		{12, [][2]int{{0, 11}, {1, 0}}, []int{2, 3, 4, 5, 6, 7, 8, 9, 10, 11, 0, 1}},
	} {
		is(t, try.n, try.needs, try.list, often(try.n, -1))
		hold(t, try.n, try.needs)
	}
}

// P17.1: things of one group come by what each needs outside of it, not all at once.
func TestOrderInGroups(t *testing.T) {
	for _, try := range []struct {
		n           int
		needs       [][2]int
		list, group []int
	}{
		{5, [][2]int{{0, 4}, {1, 2}, {2, 3}, {3, 1}, {3, 0}, {4, 4}}, []int{1, 2, 4, 0, 3}, []int{-1, 1, 1, 1, 4}},
		{3, [][2]int{{0, 1}, {1, 0}, {0, 2}}, []int{1, 2, 0}, []int{0, 0, -1}},
		{3, [][2]int{{0, 1}, {1, 0}, {1, 2}}, []int{0, 2, 1}, []int{0, 0, -1}},
		{3, [][2]int{{0, 2}, {2, 0}, {1, 0}}, []int{0, 1, 2}, []int{0, -1, 0}},
		{3, [][2]int{{0, 2}, {2, 0}, {1, 2}}, []int{0, 2, 1}, []int{0, -1, 0}},
		{3, [][2]int{{0, 2}, {2, 0}, {2, 1}, {0, 1}}, []int{1, 0, 2}, []int{0, -1, 0}},
		{4, [][2]int{{0, 3}, {3, 0}, {3, 2}, {1, 0}}, []int{0, 1, 2, 3}, []int{0, -1, -1, 0}},
		{4, [][2]int{{0, 3}, {3, 0}, {0, 2}, {2, 1}, {1, 1}}, []int{1, 2, 0, 3}, []int{0, 1, -1, 0}},
		{5, [][2]int{{0, 1}, {1, 0}, {2, 3}, {3, 2}, {0, 3}, {2, 4}}, []int{1, 3, 0, 4, 2}, []int{0, 0, 2, 2, -1}},
	} {
		is(t, try.n, try.needs, try.list, try.group)
		hold(t, try.n, try.needs)
	}
}

// P17.1: a chain of all things, either way round: no call is as deep as the chain is long.
func TestChains(t *testing.T) {
	c := byChance(2)
	for _, n := range []int{2, 3, 10, 64, 4095, 4096} {
		is(t, n, chain(upTo(n)...), downFrom(n), often(n, -1))
		is(t, n, chain(downFrom(n)...), upTo(n), often(n, -1))
		by := c.Perm(n)
		list := slices.Clone(by)
		slices.Reverse(list)
		is(t, n, chain(by...), list, often(n, -1))
		// Its last thing needs itself.
		group := often(n, -1)
		group[n-1] = n - 1
		is(t, n, append(chain(upTo(n)...), [2]int{n - 1, n - 1}), downFrom(n), group)
	}
}

// P17.1: each thing in need of all others; of all that are less, of all that are greater.
func TestAllOthers(t *testing.T) {
	for _, n := range []int{2, 3, 9, 65, 1000} {
		is(t, n, each(n, func(a, b int) bool { return a != b }), upTo(n), often(n, 0))
		is(t, n, each(n, func(a, b int) bool { return true }), upTo(n), often(n, 0))
		is(t, n, each(n, func(a, b int) bool { return a > b }), upTo(n), often(n, -1))
		is(t, n, each(n, func(a, b int) bool { return a < b }), downFrom(n), often(n, -1))
		is(t, n, each(n, func(a, b int) bool { return a <= b }), downFrom(n), upTo(n))
		is(t, n, each(n, func(a, b int) bool { return a == 0 != (b == 0) }), upTo(n), often(n, 0))
	}
}

// P17.1: the same at the limit, where the pairs are as many as they can be.
func TestAllOthersOfMost(t *testing.T) {
	is(t, 4096, each(4096, func(a, b int) bool { return a < b }), downFrom(4096), often(4096, -1))
	is(t, 4096, each(4096, func(a, b int) bool { return a != b }), upTo(4096), often(4096, 0))
}

// P17.1: all pairs of up to three things, and of four without those of a thing and itself.
func TestAllOfFew(t *testing.T) {
	for n := range 4 {
		holdAll(t, n, each(n, func(a, b int) bool { return true }))
	}
	holdAll(t, 4, each(4, func(a, b int) bool { return a != b }))
}

// holdAll holds Sort of each choice of these pairs.
func holdAll(t *testing.T, n int, pairs [][2]int) {
	t.Helper()
	for choice := range 1 << len(pairs) {
		var needs [][2]int
		for i, p := range pairs {
			if choice>>i&1 == 1 {
				needs = append(needs, p)
			}
		}
		hold(t, n, needs)
	}
}

// P17.1: pairs by chance.
func TestByChance(t *testing.T) {
	c := byChance(3)
	var alone, self, many, late int
	for range 6000 {
		n, needs := c.any(14)
		hold(t, n, needs)
		list, group := reckon(n, needs)
		for a, g := range group {
			switch {
			case g < 0:
				alone++
			case g == a:
				self++
			default:
				many++
			}
		}
		if !slices.IsSorted(list) {
			late++
		}
	}
	for range 60 {
		hold(t, 40, c.pairs(40, 10+c.IntN(60)))
		n, needs := c.any(60)
		hold(t, n, needs)
	}
	if min(alone, self, many, late) < 500 {
		t.Errorf("by chance: %d, %d, %d, %d", alone, self, many, late)
	}
}
