package deps

import (
	"fmt"
	"math"
	"math/rand/v2"
	"slices"
	"testing"

	"cadastre/api"
)

// What the chapter's words come to, said apart from the package: each cell that was set has a paper of the whole sheet, on which the places that it needs are ticked one by one; who needs whom by others is read off a table of all cells against all.

// paper has a tick at each place that is needed; row 0 and column 0 have none.
type paper [1001][53]bool

// ledger is what was set at each cell, those rectangles that have places, and its paper.
type ledger struct {
	rects  map[api.Place][]api.Rect
	papers map[api.Place]*paper
}

func newLedger() *ledger {
	return &ledger{rects: map[api.Place][]api.Rect{}, papers: map[api.Place]*paper{}}
}

// onSheet tells whether there is such a place.
func onSheet(row, col int) bool { return row > 0 && row < 1001 && col > 0 && col < 53 }

// some tells whether a rectangle has places.
func some(r api.Rect) bool {
	return onSheet(r.Row, r.Col) && onSheet(r.Row2, r.Col2) && r.Row <= r.Row2 && r.Col <= r.Col2
}

// set is Set.
func (g *ledger) set(row, col int, needs []api.Rect) api.Errno {
	if !onSheet(row, col) {
		return api.ErrOut
	}
	at, p := api.Place{Row: row, Col: col}, &paper{}
	g.rects[at], g.papers[at] = nil, p
	for _, r := range needs {
		if !some(r) {
			continue
		}
		g.rects[at] = append(g.rects[at], r)
		for i := r.Row; i <= r.Row2; i++ {
			for j := r.Col; j <= r.Col2; j++ {
				p[i][j] = true
			}
		}
	}
	return api.OK
}

// cells are all that were set, in order.
func (g *ledger) cells() []api.Place {
	var list []api.Place
	for at := range g.papers {
		list = append(list, at)
	}
	return sorted(list)
}

// sorted are places in order, each once.
func sorted(list []api.Place) []api.Place {
	numbers := map[int]bool{}
	for _, at := range list {
		numbers[100*at.Row+at.Col] = true
	}
	var keys []int
	for n := range numbers {
		keys = append(keys, n)
	}
	slices.Sort(keys)
	var out []api.Place
	for _, n := range keys {
		out = append(out, api.Place{Row: n / 100, Col: n % 100})
	}
	return out
}

// direct is Direct.
func (g *ledger) direct(row, col int) []api.Place {
	var list []api.Place
	if !onSheet(row, col) {
		return nil
	}
	for _, at := range g.cells() {
		if g.papers[at][row][col] {
			list = append(list, at)
		}
	}
	return list
}

// table tells, of all cells against all, which needs which, itself or by others.
func (g *ledger) table() ([]api.Place, [][]bool) {
	cells := g.cells()
	var t [][]bool
	for _, a := range cells {
		var line []bool
		for _, b := range cells {
			line = append(line, g.papers[a][b.Row][b.Col])
		}
		t = append(t, line)
	}
	for by := range cells {
		for a := range cells {
			for b := range cells {
				t[a][b] = t[a][b] || t[a][by] && t[by][b]
			}
		}
	}
	return cells, t
}

// reach is Reach.
func (g *ledger) reach(l []api.Place) []api.Place {
	cells, t := g.table()
	var out []api.Place
	for _, at := range l {
		if onSheet(at.Row, at.Col) {
			out = append(out, at)
		}
	}
	given := slices.Clone(out)
	for b, at := range cells {
		if !slices.ContainsFunc(given, func(p api.Place) bool { return g.papers[at][p.Row][p.Col] }) {
			continue
		}
		out = append(out, at)
		for a, other := range cells {
			if t[a][b] {
				out = append(out, other)
			}
		}
	}
	return sorted(out)
}

// cyclic is Cyclic.
func (g *ledger) cyclic(row, col int) bool {
	cells, t := g.table()
	at := slices.Index(cells, api.Place{Row: row, Col: col})
	return at >= 0 && t[at][at]
}

// both sets a cell in a Deps and in a ledger.
func both(t *testing.T, d *Deps, g *ledger, row, col int, needs ...api.Rect) {
	t.Helper()
	if got, want := d.Set(row, col, needs), g.set(row, col, needs); got != want {
		t.Fatalf("Set at %d, %d of %s: %d, not %d", row, col, brief(needs), got, want)
	}
}

// hold holds a Deps against a ledger, at all cells that were set and at these places, one by one and together.
func hold(t *testing.T, d *Deps, g *ledger, places ...api.Place) {
	t.Helper()
	places = append(slices.Clone(places), g.cells()...)
	for _, at := range places {
		if got, want := d.Needs(at.Row, at.Col), g.rects[at]; !slices.Equal(got, want) {
			t.Fatalf("Needs of %v: %s, not %s", at, brief(got), brief(want))
		}
		if got, want := d.Direct(at.Row, at.Col), g.direct(at.Row, at.Col); !slices.Equal(got, want) {
			t.Fatalf("Direct of %v: %s, not %s", at, brief(got), brief(want))
		}
		if got, want := d.Cyclic(at.Row, at.Col), g.cyclic(at.Row, at.Col); got != want {
			t.Fatalf("Cyclic of %v: %v", at, got)
		}
		holdReach(t, d, g, []api.Place{at})
	}
	holdReach(t, d, g, places)
}

// holdReach holds Reach of a list.
func holdReach(t *testing.T, d *Deps, g *ledger, l []api.Place) {
	t.Helper()
	if got, want := d.Reach(l), g.reach(l); !slices.Equal(got, want) {
		t.Fatalf("Reach of %s: %s, not %s", brief(l), brief(got), brief(want))
	}
}

// brief is a thing as a text, not too long.
func brief(v any) string {
	s := fmt.Sprintf("%v", v)
	if len(s) > 300 {
		return fmt.Sprintf("%s .. (%d bytes)", s[:300], len(s))
	}
	return s
}

// at is a place, one the rectangle that has it alone, all the whole sheet.
func at(row, col int) api.Place { return api.Place{Row: row, Col: col} }
func one(row, col int) api.Rect { return api.Rect{Row: row, Col: col, Row2: row, Col2: col} }
func rect(row, col, row2, col2 int) api.Rect {
	return api.Rect{Row: row, Col: col, Row2: row2, Col2: col2}
}
func all() api.Rect { return rect(1, 1, 1000, 52) }

// edges are places of the sheet at its edges and within.
func edges() []api.Place {
	var out []api.Place
	for _, row := range []int{1, 2, 51, 52, 53, 500, 999, 1000} {
		for _, col := range []int{1, 2, 26, 27, 51, 52} {
			out = append(out, at(row, col))
		}
	}
	return out
}

// noPlaces are places that the sheet has not: 0, below 0, just beside the last, far off.
func noPlaces() []api.Place {
	var out []api.Place
	for _, row := range []int{0, -1, -1000, 1001, 1002, 1 << 16, 1 << 32, 1<<32 + 1, math.MaxInt, math.MinInt} {
		for _, col := range []int{1, 26, 52} {
			out = append(out, at(row, col))
		}
	}
	for _, col := range []int{0, -1, -52, 53, 54, 104, 1 << 8, 1 << 32, 1<<32 + 1, math.MaxInt, math.MinInt} {
		for _, row := range []int{1, 500, 1000, 0, -1, 1001, math.MaxInt, math.MinInt} {
			out = append(out, at(row, col))
		}
	}
	return out
}

// noRects are rectangles without places: their ends in the wrong order, or beside the sheet.
func noRects() []api.Rect {
	out := []api.Rect{
		{}, rect(2, 1, 1, 1), rect(1, 2, 1, 1), rect(5, 5, 4, 4), rect(1000, 52, 1, 1), rect(1000, 1, 1, 52), rect(1, 52, 1000, 1), rect(3, 2, 2, 3), rect(2, 3, 3, 2),
		rect(1001, 53, 1001, 53), rect(-1, -1, 0, 0), rect(0, 0, 1000, 52), rect(0, 0, 1001, 53), rect(1001, 1, 1002, 52), rect(math.MinInt, math.MinInt, math.MaxInt, math.MaxInt), rect(math.MaxInt, math.MaxInt, math.MinInt, math.MinInt), rect(math.MaxInt, 1, math.MaxInt, 1),
	}
	for _, p := range noPlaces() {
		out = append(out, one(p.Row, p.Col), rect(1, 1, p.Row, p.Col), rect(p.Row, p.Col, 1000, 52), rect(p.Row, 1, p.Row, 52))
	}
	return slices.DeleteFunc(out, some)
}

// someRects are rectangles with places: of one, of rows, of columns, of the whole sheet, at all its edges and within.
func someRects() []api.Rect {
	return []api.Rect{
		one(1, 1), one(1000, 52), one(1, 52), one(1000, 1), one(7, 3), all(), rect(1, 1, 1, 52), rect(1000, 1, 1000, 52), rect(1, 1, 1000, 1), rect(1, 52, 1000, 52), rect(3, 2, 5, 4), rect(3, 2, 3, 4), rect(3, 2, 5, 2),
		rect(2, 2, 999, 51), rect(1, 1, 999, 51), rect(2, 2, 1000, 52), rect(1, 1, 2, 2), rect(999, 51, 1000, 52), rect(1, 51, 2, 52), rect(999, 1, 1000, 2), rect(500, 26, 500, 27), rect(52, 26, 53, 27),
	}
}

// chance makes rectangles and lists by chance, the same in every run.
type chance struct {
	*rand.Rand
}

func byChance(seed uint64) chance { return chance{rand.New(rand.NewPCG(16, seed))} }

// place is mostly near the first ones, sometimes at the last ones.
func (c chance) place() api.Place {
	p := at(1+c.IntN(5), 1+c.IntN(4))
	if c.IntN(10) == 0 {
		p.Row = 1000 - c.IntN(2)
	}
	if c.IntN(10) == 0 {
		p.Col = 52 - c.IntN(2)
	}
	return p
}

// any is a place, or none.
func (c chance) any() api.Place {
	if from := noPlaces(); c.IntN(12) == 0 {
		return from[c.IntN(len(from))]
	}
	return c.place()
}

// rect is mostly of one place, or of few; sometimes it has none.
func (c chance) rect() api.Rect {
	a, b := c.place(), c.place()
	switch c.IntN(8) {
	case 0:
		return rect(a.Row, a.Col, b.Row, b.Col)
	case 1:
		return rect(min(a.Row, b.Row), min(a.Col, b.Col), max(a.Row, b.Row), max(a.Col, b.Col))
	case 2:
		return rect(a.Row, a.Col, min(a.Row+c.IntN(3), 1000), min(a.Col+c.IntN(2), 52))
	case 3:
		from := noRects()
		return from[c.IntN(len(from))]
	}
	return one(a.Row, a.Col)
}

// rects are a few.
func (c chance) rects(most int) []api.Rect {
	var out []api.Rect
	for range c.IntN(most + 1) {
		out = append(out, c.rect())
	}
	return out
}

// list is some places, in any order, some of them twice, some of them none.
func (c chance) list(most int) []api.Place {
	var out []api.Place
	for range c.IntN(most + 1) {
		out = append(out, c.any())
	}
	return out
}

// deps is cells that need one another, and the ledger of it.
func (c chance) deps(t *testing.T, cells int) (*Deps, *ledger) {
	t.Helper()
	d, g := New(), newLedger()
	for range cells {
		p := c.place()
		both(t, d, g, p.Row, p.Col, c.rects(2)...)
	}
	return d, g
}
