package calc

import (
	"fmt"
	"slices"
	"strings"
	"testing"

	"cadastre/api"
	"cadastre/grid"
	"cadastre/value"
)

// P18.1 to P18.6: edits by chance, one after the other, held against what the sheet means after each.
func TestEdits(t *testing.T) {
	c := byChance(4)
	kinds := map[string]int{}
	for range 120 {
		g := c.grid(c.IntN(20))
		sheet := New(g)
		for range 60 {
			d := c.edit()
			before := len(sheet.All())
			m := do(t, sheet, g, d)
			switch {
			case sheet.Work() == 0 && len(m.cells) == before:
				kinds["nothing"]++
			case m.alone() < len(m.formulas):
				kinds["rings"]++
			default:
				kinds[d.word]++
			}
		}
	}
	for _, kind := range []string{"nothing", "rings", "set", "insert", "delete"} {
		if kinds[kind] < 100 {
			t.Errorf("by chance: %v", kinds)
		}
	}
}

// P18.4: the same cells, Set in several orders.
func TestOrders(t *testing.T) {
	c := byChance(5)
	for range 60 {
		g := c.grid(40)
		want := New(g).All()
		cells := g.Cells()
		for range 5 {
			c.Shuffle(len(cells), func(i, j int) { cells[i], cells[j] = cells[j], cells[i] })
			sheet := New(nil)
			for _, cell := range cells {
				if e := sheet.Set(cell.Row, cell.Col, cell.Text); e != api.OK {
					t.Fatalf("%q is refused: %d", cell.Text, int(e))
				}
			}
			if got := sheet.All(); !slices.Equal(got, want) {
				t.Fatalf("of %s: %s, not %s", texts(g), shown(got), shown(want))
			}
			holds(t, sheet, g)
		}
	}
	// By hand: all orders of five cells, of which three are a ring.
	lines := parts("A1 =B1+A2; B1 =A1; A2 =IFERROR(A3,1); A3 =IF(FALSE,B1,2); B3 =SUM(A1:A3)")
	var all func(done, left []string)
	all = func(done, left []string) {
		if len(left) == 0 {
			sheet := New(nil)
			for _, s := range done {
				at, text := line(t, s)
				sheet.Set(at.Row, at.Col, text)
			}
			comes(t, sheet, "A1 #CYCLE!; B1 #CYCLE!; A2 #CYCLE!; A3 #CYCLE!; B3 #CYCLE!", done)
			at, text := line(t, "A3 2")
			sheet.Set(at.Row, at.Col, text)
			comes(t, sheet, "A1 #CYCLE!; B1 #CYCLE!; A2 2; A3 2; B3 #CYCLE!", done)
		}
		for i := range left {
			all(append(slices.Clone(done), left[i]), slices.Delete(slices.Clone(left), i, i+1))
		}
	}
	all(nil, lines)
}

// about does things to a sheet that leave nothing behind but what was there, or is Set afterwards.
func (c chance) about(sheet *Calc, edits int) {
	for range edits {
		at := c.place()
		switch c.IntN(5) {
		case 0:
			sheet.Insert(at.Row)
		case 1:
			sheet.Delete(at.Row)
		default:
			sheet.Set(at.Row, at.Col, c.text())
		}
		switch c.IntN(4) {
		case 0:
			sheet.All()
		case 1:
			sheet.Value(at.Row, at.Col)
			sheet.Text(at.Row, at.Col)
		}
	}
}

// P18.4: by ways about: cells that were set and taken away, rows that came and went, things that were asked on the way.
func TestWaysAbout(t *testing.T) {
	c := byChance(6)
	for range 80 {
		g := c.grid(30)
		want, cells := New(g).All(), g.Cells()
		sheet := New(c.grid(20))
		c.about(sheet, 20)
		for _, k := range sheet.All() {
			sheet.Set(k.Row, k.Col, "")
		}
		if list := sheet.All(); len(list) != 0 {
			t.Fatalf("all taken away: %s", shown(list))
		}
		c.Shuffle(len(cells), func(i, j int) { cells[i], cells[j] = cells[j], cells[i] })
		for _, cell := range cells {
			sheet.Set(cell.Row, cell.Col, c.text())
			sheet.Set(cell.Row, cell.Col, cell.Text)
		}
		if got := sheet.All(); !slices.Equal(got, want) {
			t.Fatalf("of %s: %s, not %s", texts(g), shown(got), shown(want))
		}
		for _, cell := range cells {
			do(t, sheet, g, edit{"set", cell.Row, cell.Col, c.text()})
		}
	}
}

// P18.4: a row comes, is filled, and goes again: the cells are as they were, and come to the same.
func TestThereAndBack(t *testing.T) {
	c := byChance(7)
	back := 0
	for range 150 {
		// Nothing is named in the last row, or lies there.
		g := grid.New()
		for range 25 {
			row, col := 1+c.IntN(6), 1+c.IntN(3)
			if text := c.text(); !strings.Contains(text, "1000") && len(text) < 200 {
				g.Set(row, col, text)
			}
		}
		sheet := New(g)
		want := sheet.All()
		at := 1 + c.IntN(8)
		if sheet.Insert(at) != api.OK {
			continue
		}
		back++
		for col := 1; col <= 3; col++ {
			sheet.Set(at, col, c.text())
		}
		if e := sheet.Delete(at); e != api.OK {
			t.Fatalf("Delete(%d) is refused: %d", at, int(e))
		}
		if got := sheet.All(); !slices.Equal(got, want) {
			t.Fatalf("of %s, at %d and back: %s, not %s", texts(g), at, shown(got), shown(want))
		}
		holds(t, sheet, g, at)
	}
	if back < 100 {
		t.Errorf("only %d", back)
	}
}

// P18.5: by hand: far away is all that is not in reach of a cell, beside it, or needed by it, too.
func TestFarAway(t *testing.T) {
	const lines = "A1 1; A2 =A1+1; A3 =A2+1; B1 =B2; B2 =B1; B3 =IFERROR(B2,3); C1 5; C2 =C1+A9; C3 =SUM(C1:C2); D1 =D9"
	far := map[string]string{
		"A1": "B1 B2 B3 C1 C2 C3 D1", "A2": "A1 B1 B2 B3 C1 C2 C3 D1", "A3": "A1 A2 B1 B2 B3 C1 C2 C3 D1", "B1": "A1 A2 A3 C1 C2 C3 D1", "B3": "A1 A2 A3 B1 B2 C1 C2 C3 D1",
		"C1": "A1 A2 A3 B1 B2 B3 D1", "C2": "A1 A2 A3 B1 B2 B3 C1 D1", "C3": "A1 A2 A3 B1 B2 B3 C1 C2 D1", "A9": "A1 A2 A3 B1 B2 B3 C1 D1", "D9": "A1 A2 A3 B1 B2 B3 C1 C2 C3", "AZ1000": "A1 A2 A3 B1 B2 B3 C1 C2 C3 D1",
	}
	for set, cells := range far {
		c, g := New(gridOf(t, lines)), gridOf(t, lines)
		at, _ := line(t, set)
		for _, text := range []string{"7", "=A1+100", "=1/0", "x", "", "=" + set, "=SUM(C1:D3)", "=B1", "TRUE"} {
			before := New(gridOf(t, lines))
			do(t, c, g, edit{"set", at.Row, at.Col, text})
			for _, s := range strings.Fields(cells) {
				other, _ := line(t, s)
				got, _ := c.Value(other.Row, other.Col)
				want, _ := before.Value(other.Row, other.Col)
				if got != want {
					t.Errorf("Set of %s to %s: %s is %s, and was %s", set, text, s, literal(got), literal(want))
				}
			}
		}
	}
}

// P18.6: what is refused leaves all as it was: what the cells come to, their texts, and what hangs on what.
func TestRefused(t *testing.T) {
	c := byChance(8)
	count := 0
	for range 150 {
		g := c.grid(25)
		g.Set(1000, 1+c.IntN(52), "=A1")
		sheet, other := New(g), New(g)
		for _, d := range []edit{{"set", 2, 2, "=1+"}, {"set", 1, 1, "=SUM("}, {"set", 0, 1, "1"}, {"set", 1, 53, ""}, {"set", 1, 1, strings.Repeat("x", 301)}, {"insert", 1, 0, ""}, {"insert", 0, 0, ""}, {"delete", 1001, 0, ""}, c.edit(), c.edit()} {
			if d.of(g.Copy()) == api.OK {
				continue
			}
			count++
			do(t, sheet, g, d)
		}
		// What is done then comes to the same.
		for range 10 {
			d := c.edit()
			if d.of(sheet) != d.of(other) || sheet.Work() != other.Work() || !slices.Equal(sheet.All(), other.All()) {
				t.Fatalf("%v: %s, not %s", d, shown(sheet.All()), shown(other.All()))
			}
			d.of(g)
		}
		holds(t, sheet, g)
	}
	if count < 1000 {
		t.Errorf("only %d are refused", count)
	}
}

// A list that All answered is the caller's own: it may be written over, its spare room too, and is as it was when the sheet is changed.
func TestOwn(t *testing.T) {
	const lines = "A1 1; A2 =A1+1; B2 x; A3 =SUM(A1:A2)"
	c := New(gridOf(t, lines))
	first, second := c.All(), c.All()
	kept := slices.Clone(first)
	for i := range first[:cap(first)] {
		first[:cap(first)][i] = api.Known{Row: 9, Col: 9, V: value.Num(9)}
	}
	if !slices.Equal(second, kept) || !slices.Equal(c.All(), kept) {
		t.Errorf("%s, %s", shown(second), shown(c.All()))
	}
	c.Set(1, 1, "5")
	c.Delete(2)
	if !slices.Equal(second, kept) {
		t.Errorf("when the sheet was changed: %s", shown(second))
	}
	comes(t, c, "A1 5; A2 5")
	list := append(c.All(), api.Known{Row: 7, Col: 7, V: value.Bool(true)})
	comes(t, c, "A1 5; A2 5", len(list))
}

// Two know nothing of one another.
func TestTwo(t *testing.T) {
	a, b := New(nil), New(nil)
	ga, gb := grid.New(), grid.New()
	for i, d := range []edit{{"set", 1, 1, "1"}, {"set", 1, 2, "=A1+1"}, {"set", 2, 1, "=B1"}, {"insert", 2, 0, ""}, {"set", 1, 1, "=A3"}, {"delete", 1, 0, ""}} {
		do(t, a, ga, d)
		holds(t, b, gb, d)
		do(t, b, gb, edit{"set", 1, 1, fmt.Sprint(i)})
		do(t, b, gb, edit{"set", 3, 1, "=A1*2"})
		holds(t, a, ga, d)
	}
	if a.Work() != 1 || b.Work() != 1 {
		t.Errorf("%d, %d", a.Work(), b.Work())
	}
}

// What the zero Calc answers is open; its calls do not panic.
func TestZero(t *testing.T) {
	for _, use := range []func(c *Calc){
		func(c *Calc) { c.Set(1, 1, "=A2") }, func(c *Calc) { c.Set(1, 1, "") }, func(c *Calc) { c.Set(0, 1, "1") }, func(c *Calc) { c.Insert(1) }, func(c *Calc) { c.Delete(1) }, func(c *Calc) { c.Value(1, 1) }, func(c *Calc) { c.Text(1, 1) }, func(c *Calc) { c.All() }, func(c *Calc) { c.Work() },
		func(c *Calc) { c.Set(1, 1, "=A2"); c.Set(2, 1, "=A1"); c.Insert(2); c.All() },
	} {
		use(&Calc{})
	}
}

// Of what is gone nothing is kept.
func TestNothingKept(t *testing.T) {
	c := New(gridOf(t, "A1 =A2; A2 =SUM(B1:C9); B1 x; AZ1000 =A1"))
	for _, at := range []api.Place{{Row: 1, Col: 1}, {Row: 2, Col: 1}, {Row: 1, Col: 2}, {Row: 1000, Col: 52}} {
		c.Set(at.Row, at.Col, "")
	}
	if list := c.board.All(); c.sheet.Len() != 0 || len(list) != 0 {
		t.Errorf("%d cells, %s", c.sheet.Len(), shown(list))
	}
	for row := 1; row <= 1000; row++ {
		for col := 1; col <= 52; col++ {
			if len(c.needs.Needs(row, col)) != 0 || len(c.needs.Direct(row, col)) != 0 {
				t.Fatalf("%d, %d is still known", row, col)
			}
		}
	}
}

// P18.1: a sheet as great as can be, each formula of which needs all of the sheet: all need themselves.
func TestGreatAllOfAll(t *testing.T) {
	g := grid.New()
	for i := range 2000 {
		g.Set(1+i%1000, 1+51*(i/1000), "=IFERROR(SUM(A1:AZ1000),COUNT($A$1:$AZ$1000))")
	}
	c := New(g)
	worked(t, c, 0, 2000)
	list := c.All()
	for _, k := range list {
		if k.V != value.Err(api.ECycle) {
			t.Fatalf("%v", k)
		}
	}
	if len(list) != 2000 || c.Set(500, 26, "5") != api.ErrFull || c.Set(1, 1, "5") != api.OK || len(c.All()) != 2000 {
		t.Errorf("%d cells", len(list))
	}
	if v, _ := c.Value(1, 1); v != value.Num(50000) {
		t.Errorf("%v", v)
	}
	worked(t, c, 0, 1999)
}

// P18.1: a sheet as great as can be, in which ranges grow down a column: numbers, sums of those, and sums of these.
func TestGreatSums(t *testing.T) {
	g := grid.New()
	for row := 1; row <= 1000; row++ {
		g.Set(row, 1, "1")
		g.Set(row, 2, fmt.Sprintf("=SUM(A$1:A%d)", row))
	}
	c := New(g)
	worked(t, c, 1000, 1000)
	for row := 1; row <= 1000; row++ {
		if v, _ := c.Value(row, 2); v != value.Num(int64(row)*api.One) {
			t.Fatalf("row %d: %v", row, v)
		}
	}
	for _, at := range []int{1, 2, 500, 999, 1000} {
		if e := c.Set(at, 1, "3"); e != api.OK {
			t.Fatal(e)
		}
		worked(t, c, 1001-at, 1001-at, at)
	}
	for _, row := range []int{1, 2, 3, 499, 500, 501, 998, 999, 1000} {
		want := int64(row)
		for _, at := range []int{1, 2, 500, 999, 1000} {
			if at <= row {
				want += 2
			}
		}
		if v, _ := c.Value(row, 2); v != value.Num(want*api.One) {
			t.Errorf("row %d: %v, not %d", row, v, want)
		}
	}
	if c.Insert(1) != api.ErrFull || c.Delete(500) != api.OK || c.Insert(500) != api.OK {
		t.Error("rows")
	}
	if v, _ := c.Value(1000, 2); v != value.Num(1007*api.One) {
		t.Errorf("without row 500: %v", v)
	}
}

// P18.1: sums of all sums ahead of them, which double from one to the next until they are none.
func TestDoubling(t *testing.T) {
	c := New(nil)
	for row := 100; row > 1; row-- {
		c.Set(row, 3, fmt.Sprintf("=SUM(C$1:C%d)", row-1))
	}
	c.Set(1, 3, "0.0001")
	n, fits := int64(1), true
	for row := 2; row <= 100; row++ {
		want := value.Err(api.ENum)
		if row > 2 && fits {
			fits = n <= api.Most/2
			n *= 2
		}
		if fits {
			want = value.Num(n)
		}
		if v, _ := c.Value(row, 3); v != want {
			t.Fatalf("row %d: %v, not %v", row, v, want)
		}
	}
	if fits {
		t.Error("all are numbers")
	}
}
