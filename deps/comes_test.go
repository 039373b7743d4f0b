package deps

import (
	"slices"
	"testing"

	"cadastre/api"
)

// P16.3: Reach of two lists together is what Reach of each has.
func TestTogether(t *testing.T) {
	c := byChance(5)
	for range 300 {
		d, _ := c.deps(t, 1+c.IntN(15))
		for range 10 {
			a, b := c.list(4), c.list(4)
			got, want := d.Reach(slices.Concat(a, b)), sorted(slices.Concat(d.Reach(a), d.Reach(b)))
			if !slices.Equal(got, want) {
				t.Fatalf("Reach of %v and %v: %v, not %v", a, b, got, want)
			}
			if other := d.Reach(slices.Concat(b, a, a)); !slices.Equal(other, got) {
				t.Fatalf("Reach of %v and %v, turned about: %v, not %v", a, b, other, got)
			}
			var each []api.Place
			for _, p := range a {
				each = append(each, d.Reach([]api.Place{p})...)
			}
			if l := d.Reach(a); !slices.Equal(l, sorted(each)) {
				t.Fatalf("Reach of %v: %v, not what each has: %v", a, l, sorted(each))
			}
		}
	}
	// By hand: two chains that meet, C1 of both.
	d := New()
	d.Set(1, 3, []api.Rect{one(1, 1), one(1, 2)})
	d.Set(1, 4, []api.Rect{one(1, 3)})
	d.Set(2, 1, []api.Rect{one(1, 1)})
	d.Set(2, 2, []api.Rect{one(1, 2)})
	for _, try := range []struct{ list, want []api.Place }{
		{[]api.Place{at(1, 1)}, []api.Place{at(1, 1), at(1, 3), at(1, 4), at(2, 1)}},
		{[]api.Place{at(1, 2)}, []api.Place{at(1, 2), at(1, 3), at(1, 4), at(2, 2)}},
		{[]api.Place{at(1, 2), at(1, 1)}, []api.Place{at(1, 1), at(1, 2), at(1, 3), at(1, 4), at(2, 1), at(2, 2)}},
	} {
		if l := d.Reach(try.list); !slices.Equal(l, try.want) {
			t.Errorf("Reach of %v: %v", try.list, l)
		}
	}
}

// P16.3: Reach of Reach is it; its places are in it already.
func TestReachOfReach(t *testing.T) {
	c := byChance(6)
	for range 300 {
		d, _ := c.deps(t, 1+c.IntN(15))
		for range 10 {
			l := d.Reach(c.list(5))
			if again := d.Reach(l); !slices.Equal(again, l) {
				t.Fatalf("Reach of %v: %v", l, again)
			}
			for _, p := range l {
				for _, q := range d.Direct(p.Row, p.Col) {
					if !slices.Contains(l, q) {
						t.Fatalf("%v needs %v and is not in %v", q, p, l)
					}
				}
			}
		}
	}
}

// P16.4: what a cell needs more makes Reach of no list less.
func TestGrows(t *testing.T) {
	c := byChance(7)
	grown := 0
	for range 300 {
		d, g := c.deps(t, 1+c.IntN(12))
		for range 5 {
			var lists, before [][]api.Place
			for range 6 {
				l := c.list(3)
				lists, before = append(lists, l), append(before, d.Reach(l))
			}
			p := c.place()
			more := c.rects(2)
			both(t, d, g, p.Row, p.Col, slices.Concat(more, d.Needs(p.Row, p.Col), c.rects(1))...)
			for i, l := range lists {
				after := d.Reach(l)
				for _, q := range before[i] {
					if !slices.Contains(after, q) {
						t.Fatalf("%v needs more: Reach of %v was %v, and is %v", p, l, before[i], after)
					}
				}
				if len(after) > len(before[i]) {
					grown++
				}
			}
		}
	}
	if grown == 0 {
		t.Error("Reach of no list has grown")
	}
}

// P16.4: the same needs, said twice or by other rectangles, change nothing but what Needs tells.
func TestSameNeeds(t *testing.T) {
	for _, try := range [][2][]api.Rect{
		{{rect(1, 1, 4, 2)}, {rect(1, 1, 2, 2), rect(3, 1, 4, 2)}},
		{{rect(1, 1, 4, 2)}, {rect(1, 1, 3, 2), rect(2, 1, 4, 2)}},
		{{rect(1, 1, 4, 2)}, {rect(1, 2, 4, 2), rect(1, 1, 4, 1)}},
		{{rect(1, 1, 4, 2)}, {rect(1, 1, 4, 2), one(2, 2), rect(1, 1, 4, 2), {}}},
		{{one(1, 1), one(3, 1)}, {one(3, 1), one(1, 1), one(3, 1)}},
		{nil, {rect(2, 2, 1, 1), {}}},
	} {
		a, b := New(), New()
		for _, d := range []*Deps{a, b} {
			d.Set(6, 2, []api.Rect{one(5, 1)})
			d.Set(7, 2, []api.Rect{rect(5, 1, 6, 2)})
		}
		a.Set(5, 1, try[0])
		b.Set(5, 1, try[1])
		for row := range 12 {
			for col := range 6 {
				p := []api.Place{at(row, col)}
				if !slices.Equal(a.Direct(row, col), b.Direct(row, col)) || !slices.Equal(a.Reach(p), b.Reach(p)) || a.Cyclic(row, col) != b.Cyclic(row, col) {
					t.Errorf("%v and %v, at %v: %v, %v; %v, %v", try[0], try[1], p, a.Direct(row, col), b.Direct(row, col), a.Reach(p), b.Reach(p))
				}
			}
		}
	}
}

// P16.5: a cell is Cyclic just if it is in Reach of those that need it Directly; then, and only then, one can go from it by what it needs and come back.
func TestCycles(t *testing.T) {
	c := byChance(8)
	var count [2]int
	for range 400 {
		d, g := c.deps(t, 1+c.IntN(10))
		for _, p := range append(c.list(4), g.cells()...) {
			is := d.Cyclic(p.Row, p.Col)
			if is != slices.Contains(d.Reach(d.Direct(p.Row, p.Col)), p) || is != g.cyclic(p.Row, p.Col) {
				t.Fatalf("Cyclic of %v: %v", p, is)
			}
			if is {
				count[1]++
			} else {
				count[0]++
			}
		}
	}
	if count[0] < 100 || count[1] < 100 {
		t.Errorf("by chance: %v", count)
	}
}

// How the needs came plays no part: neither the order, nor what was set before, nor what was asked on the way.
func TestHowItCame(t *testing.T) {
	c := byChance(9)
	for range 60 {
		d, g := c.deps(t, 12)
		other := New()
		for range 10 {
			p := c.place()
			other.Set(p.Row, p.Col, c.rects(3))
			other.Reach(c.list(3))
			other.Cyclic(p.Row, p.Col)
		}
		for row := 1; row <= 1000; row++ {
			for col := 1; col <= 52; col++ {
				other.Set(row, col, nil)
			}
		}
		cells := g.cells()
		c.Shuffle(len(cells), func(i, j int) { cells[i], cells[j] = cells[j], cells[i] })
		for _, p := range cells {
			other.Set(p.Row, p.Col, d.Needs(p.Row, p.Col))
			other.Direct(p.Row, p.Col)
		}
		hold(t, other, g, c.list(8)...)
		hold(t, d, g, c.list(8)...)
	}
}

// Asking changes nothing, and is answered alike when it is done again.
func TestAskedAgain(t *testing.T) {
	c := byChance(10)
	for range 30 {
		d, g := c.deps(t, 12)
		l := append(c.list(5), g.cells()...)
		for range 3 {
			hold(t, d, g, l...)
		}
	}
}

// scribble writes over a list and its spare room.
func scribble[T any](list []T, with T) {
	list = list[:cap(list)]
	for i := range list {
		list[i] = with
	}
}

// A list that was handed to Set is not kept, and not changed, its spare room included; spare room plays no part.
func TestSetKeepsNothing(t *testing.T) {
	for _, size := range []int{0, 1, 2, 3, 8} {
		d, g := New(), newLedger()
		whole := []api.Rect{one(1, 1), rect(2, 2, 4, 3), {}, one(1, 1), rect(9, 9, 8, 8), one(6, 6), one(7, 7), rect(1, 5, 3, 5), one(8, 1), all()}
		kept := slices.Clone(whole)
		both(t, d, g, 5, 2, whole[:size]...)
		both(t, d, g, 1, 1, whole[:size]...)
		if !slices.Equal(whole, kept) {
			t.Fatalf("Set has changed its list: %v", whole)
		}
		hold(t, d, g, at(2, 2), at(6, 6), at(7, 7), at(8, 1), at(1000, 52))
		scribble(whole, one(20, 20))
		hold(t, d, g, at(2, 2), at(6, 6), at(20, 20))
		both(t, d, g, 5, 2, kept[:1]...)
		scribble(whole, all())
		hold(t, d, g, at(2, 2), at(6, 6), at(20, 20), at(1, 1))
	}
}

// Reach does not change its list, nor keep it.
func TestReachKeepsNothing(t *testing.T) {
	c := byChance(11)
	for range 50 {
		d, g := c.deps(t, 10)
		whole := append(c.list(8), at(5, 4), at(1, 1), at(0, 0), at(2, 2))
		kept := slices.Clone(whole)
		l := whole[:len(whole)-3]
		got := d.Reach(l)
		again := slices.Clone(got)
		if !slices.Equal(whole, kept) || !slices.Equal(got, g.reach(kept[:len(l)])) {
			t.Fatalf("Reach of %v: %v, and the list is %v", kept, got, whole)
		}
		scribble(whole, at(3, 3))
		if !slices.Equal(got, again) {
			t.Fatalf("Reach shares with its list: %v, then %v", again, got)
		}
		hold(t, d, g, kept...)
	}
}

// What is answered is new memory: written into, spare room too, it changes nothing, and later Sets do not change it.
func TestAnswersAreNew(t *testing.T) {
	c := byChance(12)
	for range 50 {
		d, g := c.deps(t, 10)
		for _, p := range append(g.cells(), at(1, 1), at(2, 2)) {
			l := []api.Place{p, at(1, 2)}
			needs, direct, reach := d.Needs(p.Row, p.Col), d.Direct(p.Row, p.Col), d.Reach(l)
			needs2, direct2, reach2 := d.Needs(p.Row, p.Col), d.Direct(p.Row, p.Col), d.Reach(l)
			scribble(needs, all())
			scribble(direct, at(9, 9))
			scribble(reach, at(8, 8))
			if !slices.Equal(needs2, g.rects[p]) || !slices.Equal(direct2, g.direct(p.Row, p.Col)) || !slices.Equal(reach2, g.reach(l)) {
				t.Fatalf("answers share: %v, %v, %v", needs2, direct2, reach2)
			}
			if !slices.Equal(l, []api.Place{p, at(1, 2)}) {
				t.Fatalf("Reach shares with its list: %v", l)
			}
		}
		hold(t, d, g, at(9, 9), at(8, 8))
	}
	d := New()
	d.Set(2, 1, []api.Rect{one(1, 1), one(1, 2)})
	needs, direct, reach := d.Needs(2, 1), d.Direct(1, 1), d.Reach([]api.Place{at(1, 1)})
	d.Set(2, 1, []api.Rect{one(7, 7)})
	d.Set(3, 1, []api.Rect{one(1, 1)})
	if !slices.Equal(needs, []api.Rect{one(1, 1), one(1, 2)}) || !slices.Equal(direct, []api.Place{at(2, 1)}) || !slices.Equal(reach, []api.Place{at(1, 1), at(2, 1)}) {
		t.Errorf("answers were changed by a Set: %v, %v, %v", needs, direct, reach)
	}
	// What Needs answered is handed in once more, and then written into.
	needs = d.Needs(2, 1)
	d.Set(2, 1, needs)
	d.Set(4, 1, needs)
	scribble(needs, all())
	if !slices.Equal(d.Needs(2, 1), []api.Rect{one(7, 7)}) || !slices.Equal(d.Direct(7, 7), []api.Place{at(2, 1), at(4, 1)}) || len(d.Direct(8, 8)) != 0 {
		t.Errorf("Needs: %v", d.Needs(2, 1))
	}
}

// Two of them know nothing of one another.
func TestApart(t *testing.T) {
	a, b := New(), New()
	a.Set(1, 1, []api.Rect{one(1, 2)})
	b.Set(1, 2, []api.Rect{one(1, 1)})
	if a.Cyclic(1, 1) || b.Cyclic(1, 1) || len(a.Direct(1, 1)) != 0 || len(b.Direct(1, 2)) != 0 || len(a.Needs(1, 2)) != 0 || len(b.Needs(1, 1)) != 0 || len(New().Direct(1, 1)) != 0 {
		t.Error("two share")
	}
	a.Set(1, 1, nil)
	if len(b.Needs(1, 2)) != 1 || len(a.Direct(1, 2)) != 0 {
		t.Error("two share, when one needs nothing any more")
	}
}

// What the zero Deps answers is open; its calls do not panic.
func TestZero(t *testing.T) {
	for _, use := range []func(d *Deps){
		func(d *Deps) { d.Set(1, 1, []api.Rect{all()}) }, func(d *Deps) { d.Set(1, 1, nil) }, func(d *Deps) { d.Set(0, 1, nil) }, func(d *Deps) { d.Needs(1, 1) }, func(d *Deps) { d.Direct(1, 1) }, func(d *Deps) { d.Reach(edges()) }, func(d *Deps) { d.Cyclic(1, 1) },
	} {
		use(&Deps{})
	}
}

// Of a cell that needs nothing, or nothing any more, nothing is kept.
func TestNothingKept(t *testing.T) {
	d := New()
	for _, p := range edges() {
		d.Set(p.Row, p.Col, someRects())
		d.Set(p.Row, p.Col, noRects())
		d.Set(p.Col, p.Col, nil)
		d.Set(0, p.Col, someRects())
	}
	kept := len(d.needs)
	for _, list := range d.columns {
		kept += len(list)
	}
	if kept != 0 {
		t.Errorf("%d are kept", kept)
	}
}
