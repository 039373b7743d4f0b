package order

import (
	"slices"
	"testing"

	"cadastre/api"
)

// great are numbers of things and pairs of them that are too many for a table, and some small ones.
func great(c chance) (ns []int, all [][][2]int) {
	for _, n := range []int{1, 2, 50, 500, 4095, 4096} {
		for _, count := range []int{0, n / 2, n, 2 * n, 6 * n} {
			ns, all = append(ns, n), append(all, c.pairs(n, count))
			at := c.Perm(n)
			without := slices.DeleteFunc(c.pairs(n, count), func(p [2]int) bool { return at[p[0]] <= at[p[1]] })
			ns, all = append(ns, n), append(all, without)
		}
		lots := func(p [2]int) bool { return p[0]/5 < p[1]/5 }
		ns, all = append(ns, n), append(all, slices.DeleteFunc(c.pairs(n, 3*n), lots))
	}
	return ns, all
}

// P17.2: each thing is there once, and has a group.
func TestAll(t *testing.T) {
	ns, all := great(byChance(4))
	for i, n := range ns {
		list, group, e := Sort(n, all[i])
		if e != api.OK || len(list) != n || len(group) != n {
			t.Fatalf("%d things, %d pairs: %d, %d, %d", n, len(all[i]), len(list), len(group), e)
		}
		if slices.Sort(list); !slices.Equal(list, upTo(n)) {
			t.Fatalf("%d things, %d pairs: not each once", n, len(all[i]))
		}
	}
}

// P17.3: what a thing needs stands ahead of it, if it is of another group; two that are in no group are not of one.
func TestNeedsFirst(t *testing.T) {
	ns, all := great(byChance(5))
	ahead := 0
	for i, n := range ns {
		list, group, _ := Sort(n, all[i])
		at := make([]int, n)
		for k, a := range list {
			at[a] = k
		}
		for _, p := range all[i] {
			if group[p[0]] == group[p[1]] && group[p[0]] >= 0 {
				continue
			}
			if ahead++; at[p[0]] <= at[p[1]] {
				t.Fatalf("%d things: %d needs %d, which is not ahead of it", n, p[0], p[1])
			}
		}
	}
	if ahead < 1000 {
		t.Errorf("only %d", ahead)
	}
}

// P17.1: a thing that comes ahead of a less one could come then, and the less one could not.
func TestLeastFirst(t *testing.T) {
	ns, all := great(byChance(6))
	for i, n := range ns {
		list, group, _ := Sort(n, all[i])
		at, last := make([]int, n), make([]int, n)
		for k, a := range list {
			at[a], last[a] = k, -1
		}
		// Of each thing the last one that it must wait for.
		for _, p := range all[i] {
			if group[p[0]] < 0 || group[p[0]] != group[p[1]] {
				last[p[0]] = max(last[p[0]], at[p[1]])
			}
		}
		for a := range n {
			// From the one that it waits for up to itself, there are less ones alone.
			for _, b := range list[last[a]+1 : at[a]] {
				if b > a {
					t.Fatalf("%d things: %d comes ahead of %d, which could come", n, b, a)
				}
			}
		}
	}
}

// P17.1: groups of many things: what is of one group goes round by a walk from its number and back, and no walk does so between two.
func TestGroupsOfMany(t *testing.T) {
	ns, all := great(byChance(7))
	for i, n := range ns {
		_, group, _ := Sort(n, all[i])
		on, back := make([][]int, n), make([][]int, n)
		for _, p := range all[i] {
			on[p[0]], back[p[1]] = append(on[p[0]], p[1]), append(back[p[1]], p[0])
		}
		seen := make([]bool, n)
		for a := range n {
			if seen[a] {
				continue
			}
			there, here := walked(on, a), walked(back, a)
			// a is the least of its group, as all that are less have been seen.
			for b := range n {
				if there[b] && here[b] {
					if seen[b] = true; group[b] != a {
						t.Fatalf("%d things: the group of %d is %d, not %d", n, b, group[b], a)
					}
				}
			}
			if !seen[a] && group[a] != -1 {
				t.Fatalf("%d things: the group of %d, which is alone, is %d", n, a, group[a])
			}
		}
	}
}

// walked are the things to which one comes from a thing by one step or more.
func walked(steps [][]int, from int) []bool {
	seen := make([]bool, len(steps))
	list := []int{from}
	for i := 0; i < len(list); i++ {
		for _, b := range steps[list[i]] {
			if !seen[b] {
				seen[b] = true
				list = append(list, b)
			}
		}
	}
	return seen
}

// P17.4: pairs that stand there twice or more often, or in another order, change nothing.
func TestSame(t *testing.T) {
	c := byChance(8)
	for range 1500 {
		n, needs := c.any(12)
		list, group, _ := Sort(n, needs)
		for range 4 {
			is(t, n, c.shuffled(needs), list, group)
		}
		turned := slices.Clone(needs)
		slices.Reverse(turned)
		is(t, n, turned, list, group)
		is(t, n, slices.Repeat(needs, 3), list, group)
		is(t, n, slices.Concat(turned, needs), list, group)
	}
	ns, all := great(c)
	for i, n := range ns {
		list, group, _ := Sort(n, all[i])
		is(t, n, c.shuffled(all[i]), list, group)
	}
	// By hand: one pair, twice and very often.
	for _, times := range []int{1, 2, 3, 1000, 100000} {
		is(t, 3, slices.Repeat([][2]int{{0, 2}}, times), []int{1, 2, 0}, often(3, -1))
		is(t, 3, slices.Repeat([][2]int{{1, 1}}, times), []int{0, 1, 2}, []int{-1, 1, -1})
		is(t, 3, slices.Repeat([][2]int{{0, 2}, {2, 0}}, times), []int{0, 1, 2}, []int{0, -1, 0})
	}
}

// What was refused is refused in any order of the pairs.
func TestSameRefused(t *testing.T) {
	c := byChance(9)
	for range 300 {
		n, needs := c.any(12)
		no := noThings(n)
		needs = append(needs, [2]int{c.IntN(n), no[c.IntN(len(no))]})
		refused(t, n, needs, api.ErrArg)
		bad := needs[len(needs)-1]
		refused(t, n, append(c.shuffled(needs), bad), api.ErrArg)
		refused(t, n, append([][2]int{bad}, needs...), api.ErrArg)
	}
}

// The list that is handed in is left as it was, its spare room too, which plays no part.
func TestHandedIn(t *testing.T) {
	c := byChance(10)
	for range 300 {
		n, needs := c.any(12)
		list, group, _ := Sort(n, needs)
		whole := slices.Concat(needs, c.pairs(n, 5), [][2]int{{-1, 99}})
		kept := slices.Clone(whole)
		is(t, n, whole[:len(needs)], list, group)
		refused(t, n, whole, api.ErrArg)
		refused(t, 4097, whole[:len(needs)], api.ErrLong)
		refused(t, -1, whole[:len(needs)], api.ErrArg)
		if !slices.Equal(whole, kept) {
			t.Fatalf("%v was made %v", kept, whole)
		}
	}
}

// scribble writes over a list and its spare room.
func scribble[T any](list []T, with T) {
	list = list[:cap(list)]
	for i := range list {
		list[i] = with
	}
}

// What was answered is the caller's own: neither of the lists is the other one's, or another answer's, and nothing is kept of it or of what was handed in.
func TestOwn(t *testing.T) {
	c := byChance(11)
	for range 300 {
		n, needs := c.any(12)
		list, group, _ := Sort(n, needs)
		firstList, firstGroup := slices.Clone(list), slices.Clone(group)
		otherList, otherGroup, _ := Sort(n, needs)
		scribble(list, -9)
		if !slices.Equal(group, firstGroup) {
			t.Fatalf("the groups are %v when the order is written over", group)
		}
		scribble(group, -8)
		if !slices.Equal(list, often(n, -9)) {
			t.Fatalf("the order is %v when the groups are written over", list)
		}
		if !slices.Equal(otherList, firstList) || !slices.Equal(otherGroup, firstGroup) {
			t.Fatalf("another answer is %v, %v when one is written over", otherList, otherGroup)
		}
		is(t, n, needs, firstList, firstGroup)
		scribble(needs, [2]int{0, 0})
		if !slices.Equal(otherList, firstList) || !slices.Equal(otherGroup, firstGroup) {
			t.Fatalf("the answer is %v, %v when the pairs are written over", otherList, otherGroup)
		}
	}
}

// One call knows nothing of another: asked again, also with others and refusals between, each is answered alike.
func TestAskedAgain(t *testing.T) {
	c := byChance(12)
	for range 200 {
		n, needs := c.any(12)
		list, group, _ := Sort(n, needs)
		other, otherNeeds := c.any(20)
		Sort(other, otherNeeds)
		Sort(2, [][2]int{{0, 2}})
		Sort(5000, nil)
		is(t, n, needs, list, group)
	}
}
