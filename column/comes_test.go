package column

import (
	"slices"
	"testing"

	"cadastre/api"
	"cadastre/value"
)

// P19.3: Values of Of are value.ToNum of each; of an area they are so where a value is a Number or an Error, else 0.
func TestThereAndBack(t *testing.T) {
	c := byChance(6)
	lists := [][]api.Value{nil, every(), slices.Repeat(every(), 20)[:1000]}
	for range 1000 {
		lists = append(lists, c.values(every(), c.IntN(15)))
	}
	for _, l := range lists {
		var numbers, area []api.Value
		for _, v := range l {
			numbers = append(numbers, value.ToNum(v))
			if k := value.Normal(v).K; k == api.Number || k == api.Error {
				area = append(area, value.ToNum(v))
			} else {
				area = append(area, value.Num(0))
			}
		}
		v, _ := Of(l, false)
		if got := Values(v); !slices.Equal(got, numbers) {
			t.Fatalf("%s: %s", brief(l), brief(got))
		}
		v, _ = Of(l, true)
		if got := Values(v); !slices.Equal(got, area) {
			t.Fatalf("%s as an area: %s", brief(l), brief(got))
		}
	}
}

// P19.3, the other way round: Of Values is the column, and true if it has no error.
func TestBackAndThere(t *testing.T) {
	c := byChance(7)
	all := sound()
	for range 1000 {
		all = append(all, c.column(c.IntN(20)))
	}
	for _, v := range all {
		free := !slices.ContainsFunc(v.E, func(e int) bool { return e != 0 })
		for _, area := range []bool{false, true} {
			if got, plain := Of(Values(v), area); !alike(got, v) || plain != free {
				t.Fatalf("%s, area %v: %s, %v", brief(v), area, brief(got), plain)
			}
		}
	}
}

// P19.4: Join of Slice up to each lane and from there on is the column.
func TestCutAndJoined(t *testing.T) {
	c := byChance(8)
	all := sound()
	for range 300 {
		all = append(all, c.column(c.IntN(25)))
	}
	for _, v := range all {
		for at := range len(v.N) + 1 {
			ahead, e := Slice(v, 0, at)
			behind, e2 := Slice(v, at, len(v.N))
			if e != api.OK || e2 != api.OK || len(ahead.N) != at {
				t.Fatalf("%s at %d: %d, %d", brief(v), at, e, e2)
			}
			if got, e := Join(ahead, behind); e != api.OK || !alike(got, v) || !Same(got, v) {
				t.Fatalf("%s at %d: %s, %d", brief(v), at, brief(got), e)
			}
		}
	}
}

// P19.4, the other way round: of a Join, Slice up to where the first ends is the first, and from there on the second.
func TestJoinedAndCut(t *testing.T) {
	c := byChance(9)
	for range 500 {
		a, b := c.column(c.IntN(25)), c.column(c.IntN(25))
		both, _ := Join(a, b)
		if first, e := Slice(both, 0, len(a.N)); e != api.OK || !Same(first, a) {
			t.Fatalf("%s: %s", brief(a), brief(first))
		}
		if second, e := Slice(both, len(a.N), len(both.N)); e != api.OK || !Same(second, b) {
			t.Fatalf("%s: %s", brief(b), brief(second))
		}
	}
}

// roomy is a column whose lists have spare room, and its lists with that room.
func roomy(v api.Vec) (api.Vec, api.Vec) {
	whole := api.Vec{N: append(copied(v).N, 71, 72, 73), E: append(copied(v).E, 1, 2, 3)}
	return api.Vec{N: whole.N[:len(v.N)], E: whole.E[:len(v.E)]}, whole
}

// What is handed in is left as it was, its spare room too, which plays no part.
func TestHandedIn(t *testing.T) {
	c := byChance(10)
	for range 500 {
		a, wholeA := roomy(c.column(c.IntN(8)))
		b, wholeB := roomy(c.column(c.IntN(8)))
		keptA, keptB := copied(wholeA), copied(wholeB)
		Can(a)
		holdJoin(t, a, b)
		holdJoin(t, a, a)
		for from := range len(a.N) + 2 {
			for to := range len(a.N) + 2 {
				holdSlice(t, a, from, to)
			}
		}
		holdValues(t, a)
		Same(a, b)
		if !alike(wholeA, keptA) || !alike(wholeB, keptB) {
			t.Fatalf("%s, %s were made %s, %s", brief(keptA), brief(keptB), brief(wholeA), brief(wholeB))
		}
		list := c.values(every(), 12)
		kept := slices.Clone(list)
		holdOf(t, list[:5], c.IntN(2) == 0)
		if !slices.Equal(list, kept) {
			t.Fatalf("%s was made %s", brief(kept), brief(list))
		}
	}
}

// scribble writes over a column's lists and their spare room.
func scribble(v api.Vec) {
	fill(v.N, -9)
	fill(v.E, 99)
}

func fill[T any](list []T, with T) {
	list = list[:cap(list)]
	for i := range list {
		list[i] = with
	}
}

// What was answered is the caller's own: writing over an answer changes no argument and no other answer, writing over an argument no answer.
func TestOwn(t *testing.T) {
	c := byChance(11)
	for range 500 {
		a, _ := roomy(c.column(c.IntN(8)))
		b, _ := roomy(c.column(c.IntN(8)))
		from := c.IntN(len(a.N) + 1)
		to := from + c.IntN(len(a.N)-from+1)
		list := c.values(every(), c.IntN(8))
		asked := []func() api.Vec{
			func() api.Vec { v, _ := Slice(a, from, to); return v },
			func() api.Vec { v, _ := Slice(a, 0, len(a.N)); return v },
			func() api.Vec { v, _ := Join(a, b); return v },
			func() api.Vec { v, _ := Join(a, api.Vec{}); return v },
			func() api.Vec { v, _ := Join(api.Vec{}, b); return v },
			func() api.Vec { v, _ := Join(a, a); return v },
			func() api.Vec { v, _ := Of(list, false); return v },
			func() api.Vec { v, _ := Of(list, true); return v },
		}
		for i, ask := range asked {
			keptA, keptB, keptList := copied(a), copied(b), slices.Clone(list)
			first, second := ask(), ask()
			want := copied(first)
			fill(first.N, -9)
			if !slices.Equal(first.E, want.E) {
				t.Fatalf("%d: the errors are %v when the numbers are written over", i, first.E)
			}
			scribble(first)
			if !alike(second, want) || !alike(a, keptA) || !alike(b, keptB) || !slices.Equal(list, keptList) {
				t.Fatalf("%d: writing over an answer is seen elsewhere", i)
			}
			if again := ask(); !alike(again, want) {
				t.Fatalf("%d: asked again it is %s, not %s", i, brief(again), brief(want))
			}
		}
		var answers, wanted []api.Vec
		for _, ask := range asked {
			answers = append(answers, ask())
			wanted = append(wanted, copied(answers[len(answers)-1]))
		}
		scribble(a)
		scribble(b)
		fill(list, api.Value{K: 4, E: 3})
		for i := range answers {
			if !alike(answers[i], wanted[i]) {
				t.Fatalf("%d: writing over an argument is seen in an answer", i)
			}
		}
	}
}

// The same of Values.
func TestOwnValues(t *testing.T) {
	c := byChance(12)
	for range 300 {
		v, _ := roomy(c.column(c.IntN(8)))
		kept := copied(v)
		first, second := Values(v), Values(v)
		want := slices.Clone(first)
		fill(first, api.Value{K: 3, S: "over"})
		if !slices.Equal(second, want) || !alike(v, kept) {
			t.Fatal("writing over an answer is seen elsewhere")
		}
		scribble(v)
		if !slices.Equal(second, want) {
			t.Fatal("writing over an argument is seen in an answer")
		}
	}
}
