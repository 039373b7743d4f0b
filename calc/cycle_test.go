package calc

import (
	"fmt"
	"slices"
	"strings"
	"testing"

	"cadastre/api"
	"cadastre/coord"
	"cadastre/grid"
	"cadastre/value"
)

// P18.1: a cell that needs itself is the error, whatever its formula does with it, and whether it comes to it or not.
func TestItself(t *testing.T) {
	for _, text := range []string{
		"=A1", "=$A$1", "=A1+1", "=1/0+A1", "=#REF!&A1", "=-A1", "=IF(FALSE,A1,1)", "=IF(TRUE,1,A1)", "=IF(TRUE,1,IF(TRUE,2,A1))", "=IF(1/0,A1,A1)", "=IF(A1,1,2)", "=IFERROR(A1,1)", "=IFERROR(1,A1)", "=ISERROR(A1)", "=NOT(ISERROR(A1))",
		"=SUM(A1:A1)", "=SUM(A1:B2)", "=SUM(B2:A1)", "=SUM(A9:C1)", "=SUM(A1:AZ1000)", "=COUNT(A1:A9)", "=COUNT(A1)", "=INDEX(A1:A3,2)", "=INDEX(A1:C3,2,2)", "=IF(FALSE,SUM(A1:A3),7)", "=IFERROR(INDEX(A1:B1,1,2),3)", "=A2+SUM(B1:B9,A1)", "=A2+B2*IF(B1,C1,A1)", "=AND(FALSE,A1)", "=OR(TRUE,A1)", "=0*A1", "=LEFT(\"x\",A1)", "=A1=A1", "=CONCAT(\"A1\",A1)",
	} {
		c, g := New(nil), gridOf(t, "A1 "+text)
		comes(t, New(g), "A1 #CYCLE!", text)
		g = grid.New()
		do(t, c, g, edit{"set", 1, 1, text})
		comes(t, c, "A1 #CYCLE!", text)
		do(t, c, g, edit{"set", 2, 1, "5"})
		do(t, c, g, edit{"set", 3, 1, "=IFERROR(A1,A2)"})
		// A3 leads into it, but where it lies in a range that A1 needs.
		want := "A1 #CYCLE!; A2 5; A3 5"
		if names(text, api.Place{Row: 3, Col: 1}) {
			want = "A1 #CYCLE!; A2 5; A3 #CYCLE!"
		}
		comes(t, c, want, text)
	}
	// What only looks like it does not.
	for text, want := range map[string]string{"=\"A1\"": "'A1", "=A11": "0", "=AA1": "0", "=SUM(A2:B9)": "0", "=SUM(B1:C9)": "0", "=SUM(B2:C1)": "0", "=IF(FALSE,A2,1)": "1", "=#CYCLE!": "#CYCLE!", "=#REF!": "#REF!"} {
		c := New(nil)
		c.Set(1, 1, text)
		comes(t, c, "A1 "+want, text)
	}
}

// P18.1: rings by hand: of two and more, through ranges, through what IF does not choose; what leads into them, out of them, from one to another.
func TestRings(t *testing.T) {
	for _, try := range []struct{ lines, want string }{
		{"A1 =A2; A2 =A1", "A1 #CYCLE!; A2 #CYCLE!"},
		{"A1 =B1; B1 =C1; C1 =A1; D1 =A1; E1 =D1+1", "A1 #CYCLE!; B1 #CYCLE!; C1 #CYCLE!; D1 #CYCLE!; E1 #CYCLE!"},
		{"A1 =IF(TRUE,1,A2); A2 =A1", "A1 #CYCLE!; A2 #CYCLE!"},
		{"A1 =IF(TRUE,1,A2); A2 =IF(FALSE,A1,3)", "A1 #CYCLE!; A2 #CYCLE!"},
		{"A1 =IF(TRUE,1,A2); A2 =A3; A3 =A2", "A1 1; A2 #CYCLE!; A3 #CYCLE!"},
		{"A1 =IFERROR(A2,1); A2 =IFERROR(A1,2)", "A1 #CYCLE!; A2 #CYCLE!"},
		{"A1 =SUM(B1:B9); B5 =A1", "A1 #CYCLE!; B5 #CYCLE!"},
		{"A1 =COUNT(B9:B1); B5 =C5; C5 =A1*2; B1 4", "A1 #CYCLE!; B1 4; B5 #CYCLE!; C5 #CYCLE!"},
		{"A1 =SUM(A2:A9); A2 =SUM(A3:A9); A3 =SUM(A4:A9); A9 2", "A1 8; A2 4; A3 2; A9 2"},
		{"A1 =SUM(A2:A9); A2 =SUM(A3:A9); A3 =SUM(A4:A9); A9 =A3", "A1 #CYCLE!; A2 #CYCLE!; A3 #CYCLE!; A9 #CYCLE!"},
		{"A1 =SUM(A2:A9); A2 =SUM(A3:A9); A3 =SUM(A4:A9); A9 =A1*0", "A1 #CYCLE!; A2 #CYCLE!; A3 #CYCLE!; A9 #CYCLE!"},
		{"AZ1000 =A1; A1 =AZ1000", "A1 #CYCLE!; AZ1000 #CYCLE!"},
		// Into a ring.
		{"A1 =A1; A2 =IFERROR(A1,7); A3 =ISERROR(A1); A4 =IF(TRUE,5,A1); A5 =IF(FALSE,5,A1); A6 =COUNT(A1:A1); A7 =A1&\"x\"; A8 =IF(ISERROR(A1),\"ring\",1); A9 =SUM(A1:A4)", "A1 #CYCLE!; A2 7; A3 TRUE; A4 5; A5 #CYCLE!; A6 0; A7 #CYCLE!; A8 'ring; A9 #CYCLE!"},
		{"A1 =A1; A2 =1/0+A1; A3 =A1+1/0; A4 =A2; A5 =AND(TRUE,A1); A6 =INDEX(A1:B1,1,2); A7 =INDEX(A1:B1,1,1); B1 6", "A1 #CYCLE!; B1 6; A2 #DIV/0!; A3 #CYCLE!; A4 #DIV/0!; A5 #CYCLE!; A6 6; A7 #CYCLE!"},
		{"C1 =B1+1; B1 =IFERROR(A1,3); A1 =A2; A2 =A1", "A1 #CYCLE!; B1 3; C1 4; A2 #CYCLE!"},
		{"A1 =B1; B1 =C1; C1 =D1; D1 =C1", "A1 #CYCLE!; B1 #CYCLE!; C1 #CYCLE!; D1 #CYCLE!"},
		{"A1 =IFERROR(B1,1); B1 =C1; C1 =IFERROR(D1,5); D1 =D1", "A1 5; B1 5; C1 5; D1 #CYCLE!"},
		// Out of a ring.
		{"A1 =A2+B1; A2 =A1; B1 =C1; C1 5", "A1 #CYCLE!; B1 5; C1 5; A2 #CYCLE!"},
		{"A1 =A2+B1; A2 =A1; B1 =C1; C1 =1/0", "A1 #CYCLE!; B1 #DIV/0!; C1 #DIV/0!; A2 #CYCLE!"},
		// From one to another.
		{"A1 =A2; A2 =A1+B1; B1 =B2; B2 =B1", "A1 #CYCLE!; B1 #CYCLE!; A2 #CYCLE!; B2 #CYCLE!"},
		{"A1 =A2; A2 =A1; B1 =IFERROR(A1,3); C1 =B1+1; D1 =D2+C1; D2 =D1; E1 =IFERROR(D2,C1)", "A1 #CYCLE!; B1 3; C1 4; D1 #CYCLE!; E1 4; A2 #CYCLE!; D2 #CYCLE!"},
		// Two that meet in one cell.
		{"A1 =A2+A3; A2 =A1; A3 =A1", "A1 #CYCLE!; A2 #CYCLE!; A3 #CYCLE!"},
		// Who need one cell, or one another on one side alone, are no ring.
		{"A1 =A2+A3; A2 =A4; A3 =A4; A4 1", "A1 2; A2 1; A3 1; A4 1"},
		{"A1 =A2; A2 =A3; A3 =1; B1 =A1+A2+A3", "A1 1; B1 3; A2 1; A3 1"},
		// A value stands between.
		{"A1 =A2; A2 5; A3 =A1", "A1 5; A2 5; A3 5"},
		{"A1 =A2; A3 =A1", "A1 0; A3 0"},
	} {
		g := gridOf(t, try.lines)
		comes(t, New(g), try.want, try.lines)
		list := parts(try.lines)
		chance := byChance(3)
		for range 6 {
			c, g := New(nil), grid.New()
			for _, s := range list {
				at, text := line(t, s)
				do(t, c, g, edit{"set", at.Row, at.Col, text})
			}
			comes(t, c, try.want, list)
			chance.Shuffle(len(list), func(i, j int) { list[i], list[j] = list[j], list[i] })
		}
	}
}

// ringOf is a ring of so many cells down column B, from row 3 on, and what its cells are.
func ringOf(n int) []edit {
	var list []edit
	for i := range n {
		list = append(list, edit{"set", 3 + i, 2, fmt.Sprintf("=B%d+1", 3+(i+1)%n)})
	}
	return list
}

// P18.1: rings of all lengths, which are opened at each of their cells, by a value, by another formula, and by none, and closed again.
func TestOpenedAndClosed(t *testing.T) {
	for _, n := range []int{1, 2, 3, 4, 7} {
		c, g := New(nil), gridOf(t, "A1 =B3+1; A2 =IFERROR(B3,-5); A3 =IF(FALSE,B3,9); A4 =SUM(B1:B99); C1 =IF(ISERROR(A1),1,2)")
		for _, cell := range g.Cells() {
			c.Set(cell.Row, cell.Col, cell.Text)
		}
		ring := ringOf(n)
		for _, d := range ring {
			do(t, c, g, d)
		}
		closed := c.All()
		for _, k := range closed {
			if k.Col == 2 && k.V != value.Err(api.ECycle) {
				t.Errorf("a ring of %d: %s", n, shown(closed))
			}
		}
		for i, d := range ring {
			for _, open := range []string{"7", "", "=1+1", "=Z9", "x", "=B1000", "=1/0", "=#CYCLE!", "#CYCLE!"} {
				do(t, c, g, edit{"set", d.row, d.col, open})
				if v, _ := c.Value(3+(i+n-1)%n, 2); n > 1 && open == "7" && v != value.Num(80000) {
					t.Errorf("a ring of %d, opened at %d: %s", n, i, shown(c.All()))
				}
				do(t, c, g, d)
				if !slices.Equal(c.All(), closed) {
					t.Errorf("a ring of %d, opened at %d by %q and closed: %s, not %s", n, i, open, shown(c.All()), shown(closed))
				}
			}
		}
		// Rows come into it and go out of it again: it is closed; when one of its own goes, it is not.
		for _, word := range []string{"insert", "insert", "delete", "delete", "delete"} {
			do(t, c, g, edit{word: word, row: 4})
		}
	}
}

// P18.1: by hand: a ring is opened, leads into another one, and is closed again.
func TestOpenedByHand(t *testing.T) {
	c, g := New(nil), grid.New()
	for _, step := range [][2]string{
		{"A1 =A2", "A1 0"},
		{"A2 =A3", "A1 0; A2 0"},
		{"B1 =IFERROR(A1,-1)", "A1 0; B1 0; A2 0"},
		{"A3 =A1", "A1 #CYCLE!; B1 -1; A2 #CYCLE!; A3 #CYCLE!"},
		{"A3 5", "A1 5; B1 5; A2 5; A3 5"},
		{"A3 =IF(FALSE,A1,6)", "A1 #CYCLE!; B1 -1; A2 #CYCLE!; A3 #CYCLE!"},
		{"A2 7", "A1 7; B1 7; A2 7; A3 6"},
		{"A2 =A3", "A1 #CYCLE!; B1 -1; A2 #CYCLE!; A3 #CYCLE!"},
		{"A1 8", "A1 8; B1 8; A2 6; A3 6"},
		{"A1 =B1", "A1 #CYCLE!; B1 #CYCLE!; A2 6; A3 6"},
		{"B1 1", "A1 1; B1 1; A2 6; A3 6"},
		{"A1 =A2", "A1 #CYCLE!; B1 1; A2 #CYCLE!; A3 #CYCLE!"},
		{"A3 =A4", "A1 0; B1 1; A2 0; A3 0"},
		{"A4 =A4", "A1 #CYCLE!; B1 1; A2 #CYCLE!; A3 #CYCLE!; A4 #CYCLE!"},
		{"A3 =IFERROR(A4,3)", "A1 3; B1 1; A2 3; A3 3; A4 #CYCLE!"},
		{"A4 =SUM(A1:A3)", "A1 #CYCLE!; B1 1; A2 #CYCLE!; A3 #CYCLE!; A4 #CYCLE!"},
		{"A4 =SUM(A5:A9)", "A1 0; B1 1; A2 0; A3 0; A4 0"},
		{"A7 =A4", "A1 3; B1 1; A2 3; A3 3; A4 #CYCLE!; A7 #CYCLE!"},
		{"A7 ", "A1 0; B1 1; A2 0; A3 0; A4 0"},
		{"A7 4", "A1 4; B1 1; A2 4; A3 4; A4 4; A7 4"},
		{"A4 ", "A1 0; B1 1; A2 0; A3 0; A7 4"},
	} {
		at, text := line(t, step[0])
		do(t, c, g, edit{"set", at.Row, at.Col, text})
		comes(t, c, step[1], step[0])
	}
}

// P18.1: what comes in a ring's way when rows come and go.
func TestRingsAndRows(t *testing.T) {
	for _, try := range []struct {
		lines, edits string
		want         []string
	}{
		{"A1 =A3; A3 =A1; B5 =A1", "insert 2, delete 1, insert 1", []string{"A1 #CYCLE!; A4 #CYCLE!; B6 #CYCLE!", "A3 #REF!; B5 #REF!", "A4 #REF!; B6 #REF!"}},
		{"A1 =A3; A2 4; A3 =A1; B5 =IFERROR(A1,2)", "delete 2, delete 2", []string{"A1 #CYCLE!; A2 #CYCLE!; B4 2", "A1 #REF!; B3 2"}},
		{"A3 =SUM(A4:A6); A5 =A3", "delete 4, delete 4, delete 3", []string{"A3 #CYCLE!; A4 #CYCLE!", "A3 0", ""}},
		{"A3 =SUM(A4:A6); A5 =A3; A7 =A3", "insert 5, delete 6", []string{"A3 #CYCLE!; A6 #CYCLE!; A8 #CYCLE!", "A3 0; A7 0"}},
		{"B1 =B1; B2 =IFERROR(B1,3); B3 =B2", "insert 1, insert 3, delete 2", []string{"B2 #CYCLE!; B3 3; B4 3", "B2 #CYCLE!; B4 3; B5 3", "B3 3; B4 3"}},
	} {
		g := gridOf(t, try.lines)
		c := New(g)
		for i, s := range strings.Split(try.edits, ", ") {
			word, row, _ := strings.Cut(s, " ")
			do(t, c, g, edit{word: word, row: number(row)})
			comes(t, c, try.want[i], try.lines, s)
		}
	}
}

// P18.1: a ring of as many cells as there may be, beside a cell that leads into it; opened and closed.
func TestGreatRing(t *testing.T) {
	const n = 1999
	at := func(i int) api.Ref { return api.Ref{Row: 1 + i%1000, Col: 1 + i/1000} }
	g := grid.New()
	for i := range n {
		g.Set(at(i).Row, at(i).Col, "="+coord.Print(at((i+1)%n))+"+1")
	}
	g.Set(1000, 52, "=IFERROR(A500,-7)")
	c := New(g)
	closed := c.All()
	if len(closed) != 2000 || closed[1999].V != value.Num(-70000) {
		t.Fatalf("%s", shown(closed))
	}
	for _, k := range closed[:1999] {
		if k.V != value.Err(api.ECycle) {
			t.Fatalf("%v", k)
		}
	}
	for _, i := range []int{0, 1, 499, 998, 999, 1000, 1998} {
		if c.Set(at(i).Row, at(i).Col, "0.5") != api.OK || c.Work() > n || c.Work() < n-1 {
			t.Fatalf("opened at %d: Work %d", i, c.Work())
		}
		for j := range n {
			// So many steps are from the cell to the one that was opened.
			steps := (i - j + n) % n
			if v, _ := c.Value(at(j).Row, at(j).Col); v != value.Num(int64(5000+10000*steps)) {
				t.Fatalf("opened at %d: at %d %v", i, j, v)
			}
		}
		if c.Set(at(i).Row, at(i).Col, "="+coord.Print(at((i+1)%n))+"+1") != api.OK || c.Work() > n+1 || !slices.Equal(c.All(), closed) {
			t.Fatalf("closed at %d: Work %d", i, c.Work())
		}
	}
}
