package deps

import (
	"slices"
	"testing"

	"cadastre/api"
)

// The chapter's example: A2 needs A1, A3 needs A2.
func TestExample(t *testing.T) {
	d := New()
	if d.Set(2, 1, []api.Rect{one(1, 1)}) != api.OK || d.Set(3, 1, []api.Rect{one(2, 1)}) != api.OK {
		t.Error("Set")
	}
	if l := d.Reach([]api.Place{at(1, 1)}); !slices.Equal(l, []api.Place{at(1, 1), at(2, 1), at(3, 1)}) {
		t.Errorf("Reach of A1: %v", l)
	}
	if l := d.Reach([]api.Place{at(2, 1)}); !slices.Equal(l, []api.Place{at(2, 1), at(3, 1)}) {
		t.Errorf("Reach of A2: %v", l)
	}
	if l := d.Reach([]api.Place{at(3, 1)}); !slices.Equal(l, []api.Place{at(3, 1)}) {
		t.Errorf("Reach of A3: %v", l)
	}
	if l := d.Direct(1, 1); !slices.Equal(l, []api.Place{at(2, 1)}) {
		t.Errorf("Direct of A1: %v", l)
	}
	if d.Cyclic(1, 1) || d.Cyclic(2, 1) || d.Cyclic(3, 1) {
		t.Error("Cyclic")
	}
}

// P16.1, P16.2: in a new one no cell needs anything.
func TestNew(t *testing.T) {
	d := New()
	for row := -1; row <= 1002; row++ {
		for col := -1; col <= 54; col++ {
			if len(d.Needs(row, col)) != 0 || len(d.Direct(row, col)) != 0 {
				t.Fatalf("%d, %d", row, col)
			}
		}
	}
	for _, p := range slices.Concat(edges(), noPlaces()) {
		if d.Cyclic(p.Row, p.Col) {
			t.Errorf("Cyclic of %v", p)
		}
		var want []api.Place
		if onSheet(p.Row, p.Col) {
			want = append(want, p)
		}
		if l := d.Reach([]api.Place{p}); !slices.Equal(l, want) {
			t.Errorf("Reach of %v: %v", p, l)
		}
	}
}

// P16.1: there is no such place, and nothing is changed.
func TestSetOut(t *testing.T) {
	c := byChance(1)
	for i := range 3 {
		d, g := c.deps(t, 8*i)
		if i == 2 {
			both(t, d, g, 1000, 52, all())
			both(t, d, g, 1, 1, one(1, 1))
		}
		for _, p := range noPlaces() {
			for _, needs := range [][]api.Rect{nil, {}, {one(1, 1)}, {all(), one(2, 2)}, {{}}, noRects()} {
				if e := d.Set(p.Row, p.Col, needs); e != api.ErrOut {
					t.Fatalf("Set at %v of %s: %d", p, brief(needs), e)
				}
			}
			if l := d.Needs(p.Row, p.Col); len(l) != 0 {
				t.Fatalf("Needs of %v: %v", p, l)
			}
			if l := d.Direct(1, 1); !slices.Equal(l, g.direct(1, 1)) {
				t.Fatalf("Direct of A1, when %v was set: %v", p, l)
			}
		}
		hold(t, d, g, append(edges(), at(2, 2), at(3, 3))...)
	}
}

// holdEverywhere holds Direct at all places of the sheet and beside it.
func holdEverywhere(t *testing.T, d *Deps, g *ledger) {
	t.Helper()
	cells := g.cells()
	for row := -1; row <= 1002; row++ {
		for col := -1; col <= 54; col++ {
			var want []api.Place
			for _, p := range cells {
				if onSheet(row, col) && g.papers[p][row][col] {
					want = append(want, p)
				}
			}
			if l := d.Direct(row, col); !slices.Equal(l, want) {
				t.Fatalf("Direct of %d, %d: %s, not %s", row, col, brief(l), brief(want))
			}
		}
	}
}

// P16.1, P16.2: one cell that needs a rectangle needs its places, and no others.
func TestOneRect(t *testing.T) {
	for i, r := range someRects() {
		d, g := New(), newLedger()
		p := edges()[i]
		both(t, d, g, p.Row, p.Col, r)
		holdEverywhere(t, d, g)
		hold(t, d, g, edges()...)
	}
}

// P16.1: a cell at each edge, and places at each edge that it needs.
func TestEdges(t *testing.T) {
	for _, p := range edges() {
		for _, q := range edges() {
			d := New()
			if e := d.Set(p.Row, p.Col, []api.Rect{one(q.Row, q.Col)}); e != api.OK {
				t.Fatalf("Set at %v: %d", p, e)
			}
			if l := d.Needs(p.Row, p.Col); !slices.Equal(l, []api.Rect{one(q.Row, q.Col)}) {
				t.Fatalf("%v needs %v: Needs: %v", p, q, l)
			}
			if l := d.Direct(q.Row, q.Col); !slices.Equal(l, []api.Place{p}) {
				t.Fatalf("%v needs %v: Direct: %v", p, q, l)
			}
			want := sorted([]api.Place{p, q})
			if l := d.Reach([]api.Place{q}); !slices.Equal(l, want) {
				t.Fatalf("%v needs %v: Reach: %v", p, q, l)
			}
			if l := d.Reach([]api.Place{p}); !slices.Equal(l, []api.Place{p}) {
				t.Fatalf("%v needs %v: Reach of the first: %v", p, q, l)
			}
			if d.Cyclic(p.Row, p.Col) != (p == q) || p != q && d.Cyclic(q.Row, q.Col) {
				t.Fatalf("%v needs %v: Cyclic", p, q)
			}
		}
	}
}

// P16.1: rectangles of which Area is 0 are none, alone and among others.
func TestNoRects(t *testing.T) {
	for _, r := range noRects() {
		d := New()
		if e := d.Set(3, 3, []api.Rect{r}); e != api.OK {
			t.Fatalf("Set of %v: %d", r, e)
		}
		if l := d.Needs(3, 3); len(l) != 0 {
			t.Fatalf("Needs, set as %v: %v", r, l)
		}
		for _, p := range edges() {
			if l := d.Direct(p.Row, p.Col); len(l) != 0 {
				t.Fatalf("Direct of %v, set as %v: %v", p, r, l)
			}
		}
		g := newLedger()
		both(t, d, g, 3, 3, r, one(1, 1), r, r, rect(5, 5, 6, 6), r)
		if l := d.Needs(3, 3); !slices.Equal(l, []api.Rect{one(1, 1), rect(5, 5, 6, 6)}) {
			t.Fatalf("Needs, with %v among them: %v", r, l)
		}
		hold(t, d, g, at(1, 1), at(5, 6), at(7, 6), at(1000, 52), at(1, 2))
		both(t, d, g, 3, 3, r)
		hold(t, d, g, at(1, 1), at(5, 6))
	}
	d, g := New(), newLedger()
	both(t, d, g, 3, 3, noRects()...)
	holdEverywhere(t, d, g)
	both(t, d, g, 3, 3, slices.Concat(noRects(), someRects()[:5], noRects())...)
	holdEverywhere(t, d, g)
	hold(t, d, g, edges()...)
}

// P16.1: Needs are as they were set, the same ones and those that meet too, in that order.
func TestNeedsAsSet(t *testing.T) {
	for _, needs := range [][]api.Rect{
		nil, {}, {one(1, 1)}, {one(1, 1), one(1, 1)}, {one(2, 2), one(1, 1), one(2, 2)}, {all(), all(), all()}, {rect(3, 1, 5, 2), rect(1, 1, 4, 2)}, {one(5, 1), all(), one(4, 1)},
		{rect(1, 1, 2, 2), rect(2, 2, 3, 3), rect(1, 1, 3, 3)}, {rect(1, 1, 2, 1), rect(3, 1, 4, 1)}, {rect(3, 1, 4, 1), rect(1, 1, 2, 1)}, {rect(1, 1, 1000, 1), rect(1, 1, 1, 52)}, {one(1, 3), one(1, 2), one(1, 1)}, {rect(1, 1, 9, 9), one(5, 5)}, {one(5, 5), rect(1, 1, 9, 9)}, someRects(), slices.Concat(someRects(), someRects()),
	} {
		d, g := New(), newLedger()
		both(t, d, g, 4, 2, needs...)
		if l := d.Needs(4, 2); !slices.Equal(l, needs) {
			t.Fatalf("Needs, set as %s: %s", brief(needs), brief(l))
		}
		holdEverywhere(t, d, g)
		hold(t, d, g, at(1, 1), at(1, 2), at(5, 5), at(1000, 52))
	}
}

// P16.1: what is set again takes the place of what was there: nothing else any more.
func TestSetAgain(t *testing.T) {
	lists := [][]api.Rect{nil, {}, {one(1, 1)}, {one(1, 1), one(2, 1)}, {one(4, 2)}, {rect(1, 1, 5, 3)}, {all()}, {one(9, 9), all(), {}}, {one(1000, 52), one(1, 1)}, {{}, rect(2, 1, 1, 1)}, {rect(2, 2, 8, 4), rect(3, 3, 9, 5)}, noRects()[:9]}
	for _, first := range lists {
		for _, second := range lists {
			d, g := New(), newLedger()
			both(t, d, g, 5, 3, one(4, 2), all())
			both(t, d, g, 1, 1, one(5, 3))
			both(t, d, g, 4, 2, first...)
			both(t, d, g, 4, 2, second...)
			hold(t, d, g, at(1, 1), at(2, 1), at(9, 9), at(9, 5), at(2, 2), at(3, 3), at(1000, 52), at(999, 52))
			both(t, d, g, 4, 2)
			hold(t, d, g, at(1, 1), at(2, 1), at(9, 9), at(1000, 52))
			both(t, d, g, 4, 2, first...)
			hold(t, d, g, at(1, 1), at(2, 1), at(9, 9), at(1000, 52))
		}
	}
	// By hand: more, less, others, nothing.
	d := New()
	for i, step := range []struct {
		needs       []api.Rect
		has, hasNot []api.Place
	}{
		{[]api.Rect{one(1, 1)}, []api.Place{at(1, 1)}, []api.Place{at(1, 2), at(2, 1)}},
		{[]api.Rect{one(1, 1), rect(1, 2, 2, 2)}, []api.Place{at(1, 1), at(1, 2), at(2, 2)}, []api.Place{at(2, 1), at(3, 2)}},
		{[]api.Rect{one(1, 2)}, []api.Place{at(1, 2)}, []api.Place{at(1, 1), at(2, 2)}},
		{[]api.Rect{one(7, 7)}, []api.Place{at(7, 7)}, []api.Place{at(1, 2)}},
		{nil, nil, []api.Place{at(7, 7), at(1, 1)}},
		{[]api.Rect{one(1, 1)}, []api.Place{at(1, 1)}, []api.Place{at(7, 7)}},
	} {
		if e := d.Set(3, 3, step.needs); e != api.OK || !slices.Equal(d.Needs(3, 3), step.needs) {
			t.Errorf("step %d: %d, %v", i, e, d.Needs(3, 3))
		}
		for _, p := range step.has {
			if l := d.Direct(p.Row, p.Col); !slices.Equal(l, []api.Place{at(3, 3)}) {
				t.Errorf("step %d: Direct of %v: %v", i, p, l)
			}
		}
		for _, p := range step.hasNot {
			if l := d.Direct(p.Row, p.Col); len(l) != 0 {
				t.Errorf("step %d: Direct of %v: %v", i, p, l)
			}
		}
	}
}

// P16.1: a Set of one cell leaves what others need, in the same row, the same column, at the same places.
func TestSetOthers(t *testing.T) {
	d, g := New(), newLedger()
	for _, p := range edges() {
		both(t, d, g, p.Row, p.Col, one(3, 3), rect(1, 1, 2, 52), one(p.Row, p.Col))
	}
	hold(t, d, g, at(3, 3))
	for i, p := range edges() {
		both(t, d, g, p.Row, p.Col, [][]api.Rect{nil, {one(3, 3)}, {one(4, 4)}, {all()}}[i%4]...)
		for _, q := range edges() {
			if !slices.Equal(d.Needs(q.Row, q.Col), g.rects[q]) {
				t.Fatalf("Needs of %v, when %v was set: %v", q, p, d.Needs(q.Row, q.Col))
			}
		}
	}
	hold(t, d, g, at(3, 3), at(4, 4), at(5, 5))
}

// P16.2: Direct of a place that several cells need is in order, each once, in whichever order they were set.
func TestDirectOrder(t *testing.T) {
	c := byChance(2)
	for range 20 {
		d := New()
		list := edges()
		c.Shuffle(len(list), func(i, j int) { list[i], list[j] = list[j], list[i] })
		list = list[:c.IntN(len(list)+1)]
		for _, p := range list {
			// The place is needed by one rectangle or more.
			needs := []api.Rect{one(7, 7), rect(1, 1, 9, 9), all(), one(7, 7)}
			d.Set(p.Row, p.Col, needs[:1+c.IntN(4)])
		}
		if l := d.Direct(7, 7); !slices.Equal(l, sorted(list)) {
			t.Fatalf("Direct: %v", l)
		}
		if l := d.Reach([]api.Place{at(7, 7)}); !slices.Equal(l, sorted(append(list, at(7, 7)))) {
			t.Fatalf("Reach: %v", l)
		}
	}
	d := New()
	for _, p := range []api.Place{at(2, 1), at(1, 52), at(10, 2), at(1, 3), at(10, 1), at(1, 27), at(1000, 1), at(9, 52)} {
		d.Set(p.Row, p.Col, []api.Rect{one(5, 5), one(5, 5)})
	}
	if l := d.Direct(5, 5); !slices.Equal(l, []api.Place{at(1, 3), at(1, 27), at(1, 52), at(2, 1), at(9, 52), at(10, 1), at(10, 2), at(1000, 1)}) {
		t.Errorf("Direct: %v", l)
	}
}

// P16.2: of places that are none there is nothing, whatever is needed.
func TestAskedOut(t *testing.T) {
	d := New()
	for _, p := range edges() {
		d.Set(p.Row, p.Col, []api.Rect{all(), rect(0, 0, 1001, 53)})
	}
	for _, p := range noPlaces() {
		if len(d.Needs(p.Row, p.Col)) != 0 || len(d.Direct(p.Row, p.Col)) != 0 || d.Cyclic(p.Row, p.Col) || len(d.Reach([]api.Place{p})) != 0 {
			t.Errorf("%v: %v, %v, %v, %v", p, d.Needs(p.Row, p.Col), d.Direct(p.Row, p.Col), d.Cyclic(p.Row, p.Col), d.Reach([]api.Place{p}))
		}
	}
	if l := d.Reach(noPlaces()); len(l) != 0 {
		t.Errorf("Reach: %v", l)
	}
	if l := d.Reach(append(noPlaces(), at(8, 8))); !slices.Equal(l, sorted(append(edges(), at(8, 8)))) {
		t.Errorf("Reach with a place among them: %v", l)
	}
}

// P16.2: Reach of an empty list, of nil, of places twice, in any order, of places that no cell needs.
func TestReachLists(t *testing.T) {
	c := byChance(3)
	d, g := New(), newLedger()
	both(t, d, g, 2, 1, one(1, 1))
	both(t, d, g, 3, 1, one(2, 1), one(1, 1))
	both(t, d, g, 1, 2, rect(1, 1, 9, 1))
	both(t, d, g, 9, 9, one(9, 9))
	if len(d.Reach(nil)) != 0 || len(d.Reach([]api.Place{})) != 0 || len(d.Reach([]api.Place{{}})) != 0 {
		t.Error("Reach of nothing")
	}
	for _, try := range []struct{ list, want []api.Place }{
		{[]api.Place{at(1, 1), at(1, 1)}, []api.Place{at(1, 1), at(1, 2), at(2, 1), at(3, 1)}},
		{[]api.Place{at(3, 1), at(1, 1), at(2, 1), at(1, 2)}, []api.Place{at(1, 1), at(1, 2), at(2, 1), at(3, 1)}},
		{[]api.Place{at(1000, 52), at(5, 5), at(1, 51), at(5, 5)}, []api.Place{at(1, 51), at(5, 5), at(1000, 52)}},
		{[]api.Place{at(3, 1)}, []api.Place{at(1, 2), at(3, 1)}},
		{[]api.Place{at(9, 1), at(0, 1), at(9, 9)}, []api.Place{at(1, 2), at(9, 1), at(9, 9)}},
		{[]api.Place{at(10, 1)}, []api.Place{at(10, 1)}},
		{[]api.Place{at(1, 2)}, []api.Place{at(1, 2)}},
		{[]api.Place{at(9, 9)}, []api.Place{at(9, 9)}},
	} {
		if l := d.Reach(try.list); !slices.Equal(l, try.want) {
			t.Errorf("Reach of %v: %v, not %v", try.list, l, try.want)
		}
		list := slices.Concat(try.list, try.list, noPlaces()[:3])
		for range 5 {
			c.Shuffle(len(list), func(i, j int) { list[i], list[j] = list[j], list[i] })
			if l := d.Reach(list); !slices.Equal(l, try.want) {
				t.Errorf("Reach of %v: %v, not %v", list, l, try.want)
			}
		}
	}
}

// snake is all places of the sheet, each beside or below the one ahead of it.
func snake() []api.Place {
	var out []api.Place
	for row := 1; row <= 1000; row++ {
		for i := 1; i <= 52; i++ {
			if row%2 == 1 {
				out = append(out, at(row, i))
			} else {
				out = append(out, at(row, 53-i))
			}
		}
	}
	return out
}

// P16.2: a chain of all cells of the sheet, and a ring of them.
func TestLongChain(t *testing.T) {
	d, list := New(), snake()
	for i := len(list) - 1; i > 0; i-- {
		d.Set(list[i].Row, list[i].Col, []api.Rect{one(list[i-1].Row, list[i-1].Col)})
	}
	for _, i := range []int{0, 1, 51, 52, 53, 30000, 51998, 51999} {
		if l := d.Reach(list[i : i+1]); !slices.Equal(l, sorted(list[i:])) {
			t.Fatalf("Reach of %v has %d", list[i], len(l))
		}
		if d.Cyclic(list[i].Row, list[i].Col) {
			t.Errorf("Cyclic of %v", list[i])
		}
	}
	d.Set(1, 1, []api.Rect{one(list[51999].Row, list[51999].Col)})
	for _, i := range []int{0, 51, 30000, 51999} {
		if l := d.Reach(list[i : i+1]); len(l) != 52000 || !d.Cyclic(list[i].Row, list[i].Col) {
			t.Fatalf("in a ring, Reach of %v has %d", list[i], len(l))
		}
	}
	// Cut in its middle, it is a chain once more.
	d.Set(list[30000].Row, list[30000].Col, nil)
	if l := d.Reach(list[30000:30001]); len(l) != 52000 || d.Cyclic(1, 1) || d.Cyclic(list[30000].Row, list[30000].Col) {
		t.Errorf("cut, Reach has %d", len(l))
	}
	if l := d.Reach(list[29999:30000]); len(l) != 1 {
		t.Errorf("cut, Reach of the last has %d", len(l))
	}
}

// P16.2: rings of all lengths, with cells that lead into them and cells that need them.
func TestRings(t *testing.T) {
	for n := 1; n <= 9; n++ {
		d, g := New(), newLedger()
		for i := range n {
			both(t, d, g, 10+i, 1+i%3, one(10+(i+1)%n, 1+(i+1)%n%3))
		}
		// What the ring needs and what needs the ring is not in it.
		both(t, d, g, 10, 1, one(10+1%n, 1+1%n%3), one(5, 5))
		both(t, d, g, 5, 5, one(5, 6))
		both(t, d, g, 1, 1, one(10, 1))
		both(t, d, g, 2, 1, one(1, 1), one(10, 1))
		both(t, d, g, 3, 1, all())
		hold(t, d, g, at(5, 6), at(9, 1), at(30, 30))
		for i := range n {
			if !d.Cyclic(10+i, 1+i%3) {
				t.Errorf("a ring of %d: %d is not Cyclic", n, i)
			}
		}
		// A3 needs the whole sheet, and so itself.
		if d.Cyclic(5, 5) || d.Cyclic(5, 6) || d.Cyclic(1, 1) || d.Cyclic(2, 1) || !d.Cyclic(3, 1) {
			t.Errorf("a ring of %d: Cyclic of those about it", n)
		}
		both(t, d, g, 10, 1, one(5, 5))
		hold(t, d, g, at(5, 6), at(9, 1))
		if d.Cyclic(10, 1) || d.Cyclic(10+n-1, 1+(n-1)%3) {
			t.Errorf("a ring of %d, cut: Cyclic", n)
		}
	}
}

// P16.2: a cell that needs itself, alone or in a rectangle, and cells that only lead there.
func TestItself(t *testing.T) {
	for _, try := range []struct {
		r  api.Rect
		is bool
	}{
		{one(4, 3), true}, {rect(4, 1, 4, 52), true}, {rect(1, 3, 1000, 3), true}, {all(), true}, {rect(4, 3, 9, 9), true}, {rect(1, 1, 4, 3), true}, {rect(3, 2, 5, 4), true}, {rect(4, 1, 9, 3), true}, {rect(1, 3, 4, 9), true},
		{one(4, 4), false}, {one(3, 3), false}, {rect(5, 1, 1000, 52), false}, {rect(1, 1, 3, 52), false}, {rect(1, 4, 1000, 52), false}, {rect(1, 1, 1000, 2), false}, {rect(9, 9, 1, 1), false}, {rect(0, 0, 9, 9), false}, {rect(4, 3, 3, 3), false},
	} {
		d, g := New(), newLedger()
		both(t, d, g, 4, 3, try.r)
		if d.Cyclic(4, 3) != try.is {
			t.Errorf("C4 needs %v: Cyclic: %v", try.r, !try.is)
		}
		hold(t, d, g, at(3, 3), at(4, 4), at(1, 1))
		// D6 needs C4, and D7 needs D6: they are in a ring only if C4 needs one of them.
		both(t, d, g, 6, 4, one(4, 3))
		both(t, d, g, 7, 4, one(6, 4))
		needed := len(d.Direct(7, 4)) > 0
		if d.Cyclic(7, 4) != needed || d.Cyclic(6, 4) != (needed || len(d.Direct(6, 4)) > 1) {
			t.Errorf("C4 needs %v: Cyclic of those that need it", try.r)
		}
		hold(t, d, g, at(3, 3), at(4, 4), at(1, 1))
	}
	// By hand: A1 needs itself, A2 needs A1, A3 needs A2 and A4, A4 needs A3, A5 is needed by A4.
	d := New()
	d.Set(1, 1, []api.Rect{one(1, 1)})
	d.Set(2, 1, []api.Rect{one(1, 1)})
	d.Set(3, 1, []api.Rect{one(2, 1), one(4, 1)})
	d.Set(4, 1, []api.Rect{one(3, 1), one(5, 1)})
	for row, want := range map[int]bool{1: true, 2: false, 3: true, 4: true, 5: false, 6: false} {
		if d.Cyclic(row, 1) != want {
			t.Errorf("Cyclic of row %d: %v", row, !want)
		}
	}
	if l := d.Reach([]api.Place{at(5, 1)}); !slices.Equal(l, []api.Place{at(3, 1), at(4, 1), at(5, 1)}) {
		t.Errorf("Reach of A5: %v", l)
	}
}

// P16.1, P16.2: many cells that need the whole sheet, and a list of very many rectangles.
func TestMany(t *testing.T) {
	d := New()
	var cells []api.Place
	for row := 401; row <= 600; row++ {
		for col := 1; col <= 10; col++ {
			cells = append(cells, at(row, col))
			if e := d.Set(row, col, []api.Rect{all(), all()}); e != api.OK {
				t.Fatal(e)
			}
		}
	}
	for _, p := range []api.Place{at(1, 1), at(1000, 52), at(500, 5)} {
		if l := d.Direct(p.Row, p.Col); !slices.Equal(l, cells) {
			t.Errorf("Direct of %v has %d", p, len(l))
		}
		if l := d.Reach([]api.Place{p}); !slices.Equal(l, sorted(append(slices.Clone(cells), p))) {
			t.Errorf("Reach of %v has %d", p, len(l))
		}
		if d.Cyclic(p.Row, p.Col) != (p.Row == 500) {
			t.Errorf("Cyclic of %v", p)
		}
	}
	var many []api.Rect
	for i := range 100000 {
		many = append(many, all(), api.Rect{}, one(1+i%1000, 1+i%52), rect(1+i%700, 1+i%40, 300+i%700, 5+i%40))
	}
	d = New()
	for range 2 {
		d.Set(2, 2, many)
		if l := d.Needs(2, 2); len(l) != 300000 || l[0] != all() || l[299999] != rect(1+99999%700, 1+99999%40, 300+99999%700, 5+99999%40) {
			t.Errorf("Needs has %d", len(l))
		}
		if l := d.Direct(1000, 52); !slices.Equal(l, []api.Place{at(2, 2)}) {
			t.Errorf("Direct: %v", l)
		}
	}
	d.Set(2, 2, nil)
	if len(d.Direct(1000, 52)) != 0 || len(d.Direct(1, 1)) != 0 || d.Cyclic(2, 2) {
		t.Error("Direct, when nothing is needed any more")
	}
}

// P16.1, P16.2: cells are set, and set again, by chance.
func TestByChance(t *testing.T) {
	c := byChance(4)
	for range 150 {
		d, g := New(), newLedger()
		for i := range 30 {
			p := c.any()
			both(t, d, g, p.Row, p.Col, c.rects(3)...)
			if i%10 == 9 {
				hold(t, d, g, c.list(6)...)
				holdReach(t, d, g, c.list(3))
			}
		}
	}
}
