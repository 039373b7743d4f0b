package order

import (
	"fmt"
	"math"
	"math/rand/v2"
	"slices"
	"testing"

	"cadastre/api"
)

// What the chapter's words come to, said apart from the package: who needs whom is ticked in a table of all things against all, by others too in a second one; groups are read off that one, and the order is made by looking through all things again and again.

// tables are who needs whom as the pairs say it, and by others too.
func tables(n int, needs [][2]int) (said, leads [][]bool) {
	for range n {
		said, leads = append(said, make([]bool, n)), append(leads, make([]bool, n))
	}
	for _, p := range needs {
		said[p[0]][p[1]], leads[p[0]][p[1]] = true, true
	}
	for by := range n {
		for a := range n {
			for b := range n {
				leads[a][b] = leads[a][b] || leads[a][by] && leads[by][b]
			}
		}
	}
	return said, leads
}

// reckon is Sort of what is not refused.
func reckon(n int, needs [][2]int) (list, group []int) {
	said, leads := tables(n, needs)
	together := func(a, b int) bool { return a == b || leads[a][b] && leads[b][a] }
	for a := range n {
		number := -1
		for b := n - 1; b >= 0; b-- {
			if leads[a][a] && together(a, b) {
				number = b
			}
		}
		group = append(group, number)
	}
	there := make([]bool, n)
	may := func(a int) bool {
		for b := range n {
			if said[a][b] && !there[b] && !together(a, b) {
				return false
			}
		}
		return !there[a]
	}
	for range n {
		for a := range n {
			if may(a) {
				there[a], list = true, append(list, a)
				break
			}
		}
	}
	return list, group
}

// hold holds Sort against what is reckoned here.
func hold(t *testing.T, n int, needs [][2]int) {
	t.Helper()
	list, group := reckon(n, needs)
	is(t, n, needs, list, group)
}

// is holds Sort against an answer, by which nothing is refused.
func is(t *testing.T, n int, needs [][2]int, list, group []int) {
	t.Helper()
	gotList, gotGroup, e := Sort(n, needs)
	if e != api.OK {
		t.Fatalf("Sort of %d, %s: %d", n, brief(needs), e)
	}
	if !slices.Equal(gotList, list) {
		t.Fatalf("Sort of %d, %s: the order is %s, not %s", n, brief(needs), brief(gotList), brief(list))
	}
	if !slices.Equal(gotGroup, group) {
		t.Fatalf("Sort of %d, %s: the groups are %s, not %s", n, brief(needs), brief(gotGroup), brief(group))
	}
}

// refused holds that Sort answers an error, and nothing beside it.
func refused(t *testing.T, n int, needs [][2]int, want api.Errno) {
	t.Helper()
	list, group, e := Sort(n, needs)
	if e != want || len(list) != 0 || len(group) != 0 {
		t.Fatalf("Sort of %d, %s: %s, %s, %d, not %d", n, brief(needs), brief(list), brief(group), e, want)
	}
}

// brief is a thing as a text, not too long.
func brief(v any) string {
	s := fmt.Sprintf("%v", v)
	if len(s) > 300 {
		return fmt.Sprintf("%s .. (%d bytes)", s[:300], len(s))
	}
	return s
}

// upTo are the things 0 to n less 1; downFrom the same, the greatest first.
func upTo(n int) []int {
	var out []int
	for i := range n {
		out = append(out, i)
	}
	return out
}

func downFrom(n int) []int {
	out := upTo(n)
	slices.Reverse(out)
	return out
}

// often is a number, n times.
func often(n, number int) []int { return slices.Repeat([]int{number}, n) }

// ring are pairs by which each of these things needs the next one, and the last one the first.
func ring(things ...int) [][2]int {
	var out [][2]int
	for i, a := range things {
		out = append(out, [2]int{a, things[(i+1)%len(things)]})
	}
	return out
}

// chain are pairs by which each of these things needs the next one.
func chain(things ...int) [][2]int {
	var out [][2]int
	for i := 1; i < len(things); i++ {
		out = append(out, [2]int{things[i-1], things[i]})
	}
	return out
}

// each are all pairs of things that a word holds for.
func each(n int, word func(a, b int) bool) [][2]int {
	out := make([][2]int, 0, n*n)
	for a := range n {
		for b := range n {
			if word(a, b) {
				out = append(out, [2]int{a, b})
			}
		}
	}
	return out
}

// noThings are numbers that are none of n things: below 0, n itself, far off.
func noThings(n int) []int {
	return []int{-1, -2, -n - 1, n, n + 1, 2*n + 1, 1 << 32, -1 << 32, 1<<32 + n, math.MaxInt32, math.MinInt32, math.MaxInt, math.MinInt, math.MinInt + n}
}

// chance makes pairs by chance, the same in every run.
type chance struct {
	*rand.Rand
}

func byChance(seed uint64) chance { return chance{rand.New(rand.NewPCG(17, seed))} }

// pairs are some of n things, n above 0.
func (c chance) pairs(n, count int) [][2]int {
	var out [][2]int
	for range count {
		out = append(out, [2]int{c.IntN(n), c.IntN(n)})
	}
	return out
}

// any is a number of things, and pairs of them: few or many, some without rings, some with small ones alone.
func (c chance) any(most int) (int, [][2]int) {
	n := 1 + c.IntN(most)
	out := c.pairs(n, c.IntN(2*n+1))
	switch c.IntN(4) {
	case 0:
		// Without rings: each needs those alone that stand ahead of it in some order.
		at := c.Perm(n)
		out = slices.DeleteFunc(out, func(p [2]int) bool { return at[p[0]] <= at[p[1]] })
	case 1:
		// Small rings: beyond them each needs the things of lots that come ahead of its own.
		lot := make([]int, n)
		for i := range lot {
			lot[i] = c.IntN(1 + n/3)
		}
		out = append(out, c.pairs(n, 2*n)...)
		out = slices.DeleteFunc(out, func(p [2]int) bool { return lot[p[0]] < lot[p[1]] })
	case 2:
		out = append(out, c.pairs(n, c.IntN(n*n+1))...)
	}
	return n, out
}

// shuffled are the same pairs in another order, some of them twice or more often.
func (c chance) shuffled(needs [][2]int) [][2]int {
	out := slices.Clone(needs)
	if len(needs) > 0 {
		for range c.IntN(2 * len(needs)) {
			out = append(out, needs[c.IntN(len(needs))])
		}
	}
	c.Shuffle(len(out), func(i, j int) { out[i], out[j] = out[j], out[i] })
	return out
}
