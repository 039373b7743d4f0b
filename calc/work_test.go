package calc

import (
	"testing"

	"cadastre/api"
	"cadastre/grid"
	"cadastre/value"
)

// worked holds Work between two numbers; it is told the same however often it is asked, and whatever else is asked.
func worked(t *testing.T, c *Calc, fewest, most int, when ...any) {
	t.Helper()
	for range 2 {
		if w := c.Work(); w < fewest || w > most {
			t.Errorf("%v: Work is %d, not from %d to %d", when, w, fewest, most)
		}
		first := c.Work()
		c.All()
		c.Value(1, 1)
		c.Value(0, 1)
		c.Text(1, 1)
		c.Text(1, 99)
		if w := c.Work(); w != first {
			t.Errorf("%v: Work was %d, and is %d", when, first, w)
		}
	}
}

// P18.3: New reckons all formulas, no more; none of none.
func TestWorkOfNew(t *testing.T) {
	for lines, n := range map[string]int{"": 0, "A1 5": 0, "A1 5; B1 x; C1 TRUE": 0, "A1 =1": 1, "A1 =1; A2 =A1; A3 5": 2, "A1 2; A2 =A1*3; A3 =SUM(A1:A2)": 2, "A3 =A2; A2 =A1; A1 =1; B1 =B2": 4} {
		worked(t, New(gridOf(t, lines)), n, n, lines)
	}
	// Whether one that needs itself is reckoned, too, is open.
	worked(t, New(gridOf(t, "A1 =A1; A2 =A3; A3 =A2; A4 =A3; A5 1")), 1, 4)
	worked(t, New(nil), 0, 0)
}

// P18.3: Set: at most the formulas that are in reach, and so many at least as come to something else.
func TestWorkOfSet(t *testing.T) {
	c, g := New(gridOf(t, "A1 1; A2 =A1+1; A3 =A2+1; B1 =A1; C1 =1+1; C2 =C1")), gridOf(t, "A1 1; A2 =A1+1; A3 =A2+1; B1 =A1; C1 =1+1; C2 =C1")
	for _, step := range []struct {
		set          string
		fewest, most int
	}{
		{"A1 2", 3, 3}, {"A1 3", 3, 3}, {"A1 3", 0, 3}, {"A1 x", 3, 3}, {"A1 ", 3, 3}, {"A1 =C2*7", 4, 4}, {"A1 =C2*7", 0, 4}, {"C1 5", 5, 5}, {"C1 =8-1", 6, 6}, {"A1 14", 3, 3}, {"C1 3", 1, 1},
		// What needs nothing, and what nothing needs.
		{"D9 5", 0, 0}, {"D9 x", 0, 0}, {"D9 ", 0, 0}, {"D9 ", 0, 0}, {"D9 =1", 1, 1}, {"D9 =1", 0, 1}, {"D9 =A3", 1, 1}, {"D9 7", 0, 0}, {"AZ1000 =AZ999", 1, 1},
		{"A3 =1", 1, 1}, {"A3 =A2", 1, 1}, {"A3 9", 0, 0}, {"A3 ", 0, 0},
		// A cell that was blank, and is in a range.
		{"B9 =SUM(D1:D8)", 1, 1}, {"D3 4", 1, 1}, {"D4 =D3", 2, 2}, {"D9 5", 0, 0}, {"D3 5", 2, 2}, {"D3 5", 0, 2}, {"D4 ", 1, 1},
	} {
		at, text := line(t, step.set)
		do(t, c, g, edit{"set", at.Row, at.Col, text})
		worked(t, c, step.fewest, step.most, step.set)
	}
}

// P18.3: rings: at most their formulas, and those that lead into them.
func TestWorkOfRings(t *testing.T) {
	lines := "A1 =A2; A2 =A3; A3 1; B1 =IFERROR(A1,2); B2 =B1; C1 =C2; C2 =C1; D1 5; D2 =D1"
	c, g := New(gridOf(t, lines)), gridOf(t, lines)
	for _, step := range []struct {
		set          string
		fewest, most int
	}{
		{"A3 =A1", 5, 5}, {"A3 =A1", 0, 5}, {"A2 =A3+1", 0, 5}, {"A3 3", 4, 4}, {"C1 7", 1, 1}, {"C1 =C2", 2, 2}, {"C2 =C2", 0, 2}, {"D1 6", 1, 1}, {"D1 =D2", 2, 2}, {"D1 =D3", 2, 2}, {"D3 1", 2, 2},
	} {
		at, text := line(t, step.set)
		do(t, c, g, edit{"set", at.Row, at.Col, text})
		worked(t, c, step.fewest, step.most, step.set)
	}
}

// P18.3: 0 of what was refused, whatever was done ahead of it.
func TestWorkOfRefused(t *testing.T) {
	lines := "A1 1; A2 =A1+1; A3 =A2+1; A1000 =A1; AZ1000 x"
	for _, d := range []edit{{"set", 0, 1, "1"}, {"set", 1, 0, "1"}, {"set", 1001, 1, ""}, {"set", 1, 53, "=A1"}, {"set", 1, 1, "=1+"}, {"set", 1, 1, "="}, {"set", 2, 1, "=SUM("}, {"insert", 0, 0, ""}, {"insert", 1001, 0, ""}, {"insert", 1, 0, ""}, {"insert", 1000, 0, ""}, {"delete", 0, 0, ""}, {"delete", -1, 0, ""}, {"delete", 1001, 0, ""}} {
		c := New(gridOf(t, lines))
		for _, first := range []edit{{}, {"set", 1, 1, "5"}, {"set", 1, 1, "=B1"}, {"delete", 500, 0, ""}} {
			if first.word != "" && first.of(c) != api.OK {
				t.Fatalf("%v is refused", first)
			}
			if c.Work() == 0 {
				t.Fatalf("%v: nothing was reckoned", first)
			}
			if first.word == "delete" && d.word == "insert" {
				// The last row is blank now.
				continue
			}
			if e := d.of(c); e == api.OK {
				t.Errorf("%v is not refused", d)
			}
			worked(t, c, 0, 0, first, d)
			c.Set(1, 1, "6")
			worked(t, c, 3, 3, first, d)
		}
	}
}

// P18.3: Insert and Delete: at most all formulas that there are then.
func TestWorkOfRows(t *testing.T) {
	for _, try := range []struct {
		lines    string
		at       int
		inserted int
		deleted  int
	}{
		{"", 1, 0, 0}, {"A1 1; A5 x", 1, 0, 0}, {"A1 1; A2 =A1; A3 =A2", 1, 2, 2}, {"A1 1; A2 =A1; A3 =A2", 2, 2, 1}, {"A1 1; A2 =A1; A3 =A2", 3, 2, 1}, {"A1 1; A2 =A1; A3 =A2", 4, 2, 2}, {"A1 1; A2 =A1; A3 =A2", 1000, 2, 2}, {"A1 =A2; A2 =A1; B2 =1; C2 =2", 2, 4, 1},
	} {
		for word, most := range map[string]int{"insert": try.inserted, "delete": try.deleted} {
			g := gridOf(t, try.lines)
			c := New(g)
			do(t, c, g, edit{word: word, row: try.at})
			worked(t, c, 0, most, word, try.at, try.lines)
		}
	}
	c := New(gridOf(t, "A1 1; A2 =A1"))
	c.Delete(1)
	// The one formula has another value, so it was reckoned.
	worked(t, c, 1, 1)
	comes(t, c, "A1 #REF!")
}

// chainOf is a sheet with a chain of so many cells, each of which needs the one ahead of it, down the columns.
func chainOf(n int) *grid.Grid {
	g := grid.New()
	g.Set(1, 1, "1")
	for i := 1; i < n; i++ {
		g.Set(1+i%1000, 1+i/1000, "="+name(1+(i-1)%1000, 1+(i-1)/1000)+"+1")
	}
	return g
}

// P18.3: a chain as long as can be: its first cell, its last one, one in the midst, and one beside it.
func TestChain(t *testing.T) {
	const n = 2000
	c := New(chainOf(n))
	worked(t, c, n-1, n-1)
	at := func(i int) (int, int) { return 1 + i%1000, 1 + i/1000 }
	is := func(i int, want int64, when string) {
		t.Helper()
		row, col := at(i)
		if v, e := c.Value(row, col); v != value.Num(want*api.One) || e != api.OK {
			t.Errorf("%s: at %d %v, %d", when, i, v, int(e))
		}
	}
	for i := range n {
		is(i, int64(i+1), "as it was")
	}
	for _, i := range []int{0, 1, 2, 999, 1000, 1001, 1500, n - 2, n - 1} {
		row, col := at(i)
		text, _ := c.Text(row, col)
		if e := c.Set(row, col, "-500"); e != api.OK {
			t.Fatal(e)
		}
		worked(t, c, n-1-i, n-1-i, "a value", i)
		is(n-1, int64(n-1-i-500), "a value")
		if i > 0 {
			is(i-1, int64(i), "ahead of a value")
		}
		c.Set(row, col, "=AZ1000*2")
		worked(t, c, n-i, n-i, "a formula", i)
		is(n-1, int64(n-1-i), "a formula")
		c.Set(row, col, text)
		is(n-1, n, "as it was again")
	}
	c.Set(1000, 2, "")
	c.Set(1000, 52, "7")
	worked(t, c, 0, 0, "beside it")
	c.Set(1, 1, "=Z1")
	worked(t, c, n-1, n-1, "the first one")
	is(n-2, n-2, "the first one")
	if c.Delete(1) != api.OK {
		t.Error("refused")
	}
	if v, _ := c.Value(998, 2); v != value.Err(api.ERef) {
		t.Errorf("the chain without its beginning: %v", v)
	}
}

// P18.3: a chain that grows: behind its last cell one formula is reckoned, ahead of its first one all of them.
func TestGrowingChain(t *testing.T) {
	const n = 600
	text := func(row int) string {
		if row == 1 {
			return "=0+1"
		}
		return "=" + name(row-1, 2) + "+1"
	}
	behind, ahead := New(nil), New(nil)
	for i := 1; i <= n; i++ {
		behind.Set(i, 2, text(i))
		worked(t, behind, 1, 1, "behind", i)
		ahead.Set(n+1-i, 2, text(n+1-i))
		worked(t, ahead, i, i, "ahead", i)
		if v, _ := ahead.Value(n, 2); v != value.Num(int64(i)*api.One) {
			t.Fatalf("%d cells: %v", i, v)
		}
	}
	for row := 1; row <= n; row++ {
		v, _ := behind.Value(row, 2)
		w, _ := ahead.Value(row, 2)
		if v != value.Num(int64(row)*api.One) || w != v {
			t.Fatalf("row %d: %v, %v", row, v, w)
		}
	}
}
