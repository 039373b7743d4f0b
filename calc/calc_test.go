package calc

import (
	"fmt"
	"slices"
	"strings"
	"testing"

	"cadastre/api"
	"cadastre/grid"
	"cadastre/value"
)

// comes holds what all cells of a Calc come to against lines.
func comes(t *testing.T, c *Calc, want string, when ...any) {
	t.Helper()
	if got := shown(c.All()); got != want {
		t.Errorf("%v: %s, not %s", when, got, want)
	}
}

// The chapter's example.
func TestExample(t *testing.T) {
	const cycle = "A1 #CYCLE!; A2 #CYCLE!; A3 #CYCLE!"
	g := gridOf(t, "A1 =A2; A2 =A1+1; A3 =A1")
	comes(t, New(g), cycle)
	c := New(nil)
	for _, s := range []string{"A3 =A1", "A1 =A2", "A2 =A1+1"} {
		at, text := line(t, s)
		if e := c.Set(at.Row, at.Col, text); e != api.OK {
			t.Errorf("%s: %d", s, int(e))
		}
	}
	comes(t, c, cycle)
	for row := 1; row <= 3; row++ {
		if v, e := c.Value(row, 1); v != value.Err(api.ECycle) || e != api.OK {
			t.Errorf("A%d: %v, %d", row, v, int(e))
		}
	}
}

// P18.2: New of nil, of a sheet that was never used, of one whose cells are gone again: all is blank.
func TestNewOfNothing(t *testing.T) {
	gone := gridOf(t, "A1 1; B2 =A1")
	gone.Set(1, 1, "")
	gone.Set(2, 2, "")
	for i, g := range []*grid.Grid{nil, grid.New(), {}, gone, New(nil).sheet.Copy()} {
		c := New(g)
		if c.Work() != 0 || len(c.All()) != 0 {
			t.Errorf("%d: %d, %s", i, c.Work(), shown(c.All()))
		}
		for row := 1; row <= 1000; row++ {
			for col := 1; col <= 52; col++ {
				v, e := c.Value(row, col)
				text, e2 := c.Text(row, col)
				if v != (api.Value{}) || text != "" || e != api.OK || e2 != api.OK {
					t.Fatalf("%d: at %d, %d: %v, %d, %q, %d", i, row, col, v, int(e), text, int(e2))
				}
			}
		}
		if c.Set(5, 2, "=B6+1") != api.OK || c.Set(6, 2, "2") != api.OK {
			t.Errorf("%d: refused", i)
		}
		comes(t, c, "B5 3; B6 2", i)
	}
}

// P18.1, P18.2: New of sheets with values, texts, truths, errors and formulas.
func TestNew(t *testing.T) {
	for _, try := range []struct{ lines, want string }{
		{"A1 5", "A1 5"},
		{"A1 -1.50; B1 007; C1 99999999999999999999; AZ1 0", "A1 -1.5; B1 7; C1 #NUM!; AZ1 0"},
		{"A1 x; A2 'x; A3 '; A4 '5; A5 '=A1; A6  5; A1000 ''", "A1 'x; A2 'x; A3 '; A4 '5; A5 '=A1; A6 ' 5; A1000 ''"},
		{"A1 TRUE; A2 FALSE; A3 'TRUE; A4 true", "A1 TRUE; A2 FALSE; A3 'TRUE; A4 'true"},
		{"A1 #REF!; A2 #VALUE!; A3 #DIV/0!; A4 #NUM!; A5 #CYCLE!; A6 #NO!", "A1 #REF!; A2 #VALUE!; A3 #DIV/0!; A4 #NUM!; A5 #CYCLE!; A6 '#NO!"},
		{`A1 =1; A2 =TRUE; A3 ="x"; A4 =""; A5 =#NUM!; A6 =#CYCLE!; A7 =1/0; A8 =B1; A9 =-B1`, "A1 1; A2 TRUE; A3 'x; A4 '; A5 #NUM!; A6 #CYCLE!; A7 #DIV/0!; A8 0; A9 0"},
		{"A1 2; A2 =A1*3; A3 =SUM(A1:A2)", "A1 2; A2 6; A3 8"},
		{"B2 2; C3 TRUE; A1 x; D4 =B2&A1; A2 =IF(C3,D4,1/0)", "A1 'x; A2 '2x; B2 2; C3 TRUE; D4 '2x"},
	} {
		g := gridOf(t, try.lines)
		c := New(g)
		comes(t, c, try.want, try.lines)
		m := holds(t, c, g, try.lines)
		if w := c.Work(); w < m.alone() || w > len(m.formulas) {
			t.Errorf("%s: Work is %d", try.lines, w)
		}
	}
	chance := byChance(1)
	for range 400 {
		g := chance.grid(30)
		c := New(g)
		m := holds(t, c, g)
		if w := c.Work(); w < m.alone() || w > len(m.formulas) {
			t.Fatalf("of %s: Work is %d", texts(g), w)
		}
	}
}

// P18.2: a Calc is apart from the sheet that it was made of, and from others of that sheet.
func TestNewApart(t *testing.T) {
	const lines = "A1 1; A2 =A1+1; B2 =SUM(A1:A5); A5 =B9"
	for _, d := range []edit{{"set", 1, 1, "7"}, {"set", 1, 1, ""}, {"set", 2, 1, "=B9"}, {"set", 9, 2, "3"}, {"set", 1, 1, "=B2"}, {"set", 30, 1, "x"}, {"insert", 1, 0, ""}, {"insert", 3, 0, ""}, {"delete", 1, 0, ""}, {"delete", 2, 0, ""}} {
		g := gridOf(t, lines)
		c, other := New(g), New(g)
		kept := g.Copy()
		d.of(g)
		holds(t, c, kept, d, "done to the sheet")
		// What hangs on a cell is still known, and nothing of what was done.
		do(t, c, kept, edit{"set", 9, 2, "4"})
		do(t, c, kept, edit{"set", 1, 1, "2"})
		do(t, c, kept, edit{"insert", 2, 0, ""})

		g = gridOf(t, lines)
		c, kept = New(g), g.Copy()
		do(t, c, kept, d)
		holds(t, other, gridOf(t, lines), d, "done to another one")
		if got, want := texts(g), texts(gridOf(t, lines)); got != want {
			t.Errorf("%v done to the Calc: the sheet is %s, not %s", d, got, want)
		}
	}
	// A tree that the sheet told may be written over.
	g := gridOf(t, lines)
	c := New(g)
	for _, cell := range g.Cells() {
		for i := range cell.X.L {
			cell.X.L[i] = api.Exp{K: api.XErr, E: api.ERef}
		}
	}
	do(t, c, gridOf(t, lines), edit{"set", 1, 1, "5"})
}

// P18.2: Set of values: at places all over the sheet, over values and formulas, with one that needs the cell beside it.
func TestSetValues(t *testing.T) {
	for _, at := range edges() {
		c, g := New(nil), grid.New()
		if at != (api.Place{Row: 7, Col: 3}) {
			do(t, c, g, edit{"set", 7, 3, "=" + name(at.Row, at.Col)})
		}
		for _, text := range []string{"5", "-0.5", "x", "'x", "'", "TRUE", "FALSE", "#NUM!", "#CYCLE!", " ", "=1+1", "99999999999999999999", "", "3", "=A7", "4", "", ""} {
			do(t, c, g, edit{"set", at.Row, at.Col, text})
			if v, _ := c.Value(at.Row, at.Col); text != "" && text[0] != '=' && v != value.Literal(text) {
				t.Errorf("%q: %v", text, v)
			}
		}
	}
}

// P18.2: Set of formulas: the text is the one form; what the cell needed before it does not need any more.
func TestSetFormulas(t *testing.T) {
	c, g := New(nil), grid.New()
	for _, step := range []struct{ set, text, want string }{
		{"B1 = ( A1 + 1 )", "=A1+1", "B1 1"},
		{"A1 5", "5", "A1 5; B1 6"},
		{"B1 =(A2*(2))", "=A2*2", "A1 5; B1 0"},
		{"A1 6", "6", "A1 6; B1 0"},
		{"A2 4", "4", "A1 6; B1 8; A2 4"},
		{"B1 =SUM( A1 : A2 , 1)", "=SUM(A1:A2,1)", "A1 6; B1 11; A2 4"},
		{"A2 =A1", "=A1", "A1 6; B1 13; A2 6"},
		{"A1 =A3", "=A3", "A1 0; B1 1; A2 0"},
		{"A3 'x", "'x", "A1 'x; B1 1; A2 'x; A3 'x"},
		{"B1 7", "7", "A1 'x; B1 7; A2 'x; A3 'x"},
		{"A3 1", "1", "A1 1; B1 7; A2 1; A3 1"},
		{"B1 ", "", "A1 1; A2 1; A3 1"},
		{"A3 2", "2", "A1 2; A2 2; A3 2"},
		{"A1 ", "", "A2 0; A3 2"},
		{"A2 ", "", "A3 2"},
		{"A3 ", "", ""},
		{"A3 ", "", ""},
		{"A1 = 007 - 7.00", "=7-7", "A1 0"},
	} {
		at, text := line(t, step.set)
		do(t, c, g, edit{"set", at.Row, at.Col, text})
		comes(t, c, step.want, step.set)
		if text, e := c.Text(at.Row, at.Col); text != step.text || e != api.OK {
			t.Errorf("%s: %q, %d", step.set, text, int(e))
		}
	}
}

// P18.2, P18.6: what Set refuses, and why, ahead of what; nothing is changed.
func TestSetRefused(t *testing.T) {
	const lines = "A1 1; B1 =A1+1; C1 =SUM(A1:B1); A2 =A2; A1000 x; AZ1 =AZ1000; AZ1000 3"
	deep := func(n int) string { return "=" + strings.Repeat("(", n) + "1" + strings.Repeat(")", n) }
	c, g := New(gridOf(t, lines)), gridOf(t, lines)
	before := shown(c.All())
	for _, at := range noPlaces() {
		for _, text := range []string{"1", "", "=1", "=A1", "=1+", "'", strings.Repeat("a", 301), deep(41)} {
			c.Set(1, 1, "1")
			if e := c.Set(at.Row, at.Col, text); e != api.ErrOut || c.Work() != 0 {
				t.Fatalf("%v: %q: %d, Work %d", at, text, int(e), c.Work())
			}
		}
	}
	comes(t, c, before, "places that are none")
	for _, at := range []api.Place{{Row: 1, Col: 1}, {Row: 1, Col: 2}, {Row: 2, Col: 1}, {Row: 9, Col: 9}, {Row: 1000, Col: 1}, {Row: 1000, Col: 52}} {
		for _, try := range []struct {
			text string
			want api.Errno
		}{
			{strings.Repeat("a", 301), api.ErrLong}, {"=" + strings.Repeat("1", 300), api.ErrLong}, {"=1" + strings.Repeat(" ", 299), api.ErrLong}, {"=)" + strings.Repeat("a", 299), api.ErrLong}, {strings.Repeat("(", 2000), api.ErrLong},
			{"=", api.ErrForm}, {"= ", api.ErrForm}, {"=1+", api.ErrForm}, {"=A0", api.ErrForm}, {"=A1001", api.ErrForm}, {"=BA1", api.ErrForm}, {"=a1", api.ErrForm}, {"=A1:A2", api.ErrForm}, {"=SUM()", api.ErrForm}, {"=IF(1)", api.ErrForm}, {"==1", api.ErrForm}, {"=1 2", api.ErrForm}, {"=\"", api.ErrForm}, {"=(1", api.ErrForm},
			{deep(41), api.ErrLong}, {deep(100), api.ErrLong}, {"=" + strings.Repeat("-", 41) + "1", api.ErrLong},
		} {
			c.Set(1, 1, "1")
			if e := c.Set(at.Row, at.Col, try.text); e != try.want || c.Work() != 0 {
				t.Errorf("%v: %q: %d, Work %d", at, try.text, int(e), c.Work())
			}
			comes(t, c, before, at, try.text)
			do(t, c, g, edit{"set", at.Row, at.Col, try.text})
		}
	}
	do(t, c, g, edit{"set", 9, 9, deep(40)})
	do(t, c, g, edit{"set", 9, 10, strings.Repeat("a", 300)})
	// What the cells need is still known.
	do(t, c, g, edit{"set", 1, 1, "5"})
	comes(t, c, strings.Replace(strings.Replace(before, "A1 1; B1 2; C1 3", "A1 5; B1 6; C1 11", 1), "A1000", "I9 1; J9 '"+strings.Repeat("a", 300)+"; A1000", 1))
}

// P18.2: a cell too many is refused; one that is there may still be changed, and one goes as another comes.
func TestTooMany(t *testing.T) {
	c, g := New(nil), grid.New()
	for i := range 2000 {
		text := "1"
		if i%100 == 99 {
			text = "=" + name(1+(i-1)/50, 1+(i-1)%50) + "+1"
		}
		if c.Set(1+i/50, 1+i%50, text) != api.OK || g.Set(1+i/50, 1+i%50, text) != api.OK {
			t.Fatalf("cell %d is refused", i)
		}
	}
	if list := c.All(); len(list) != 2000 {
		t.Fatalf("%d cells", len(list))
	}
	for _, d := range []struct {
		edit
		want api.Errno
	}{
		{edit{"set", 41, 1, "1"}, api.ErrFull}, {edit{"set", 1000, 52, "=A1"}, api.ErrFull}, {edit{"set", 1, 51, "x"}, api.ErrFull}, {edit{"set", 41, 1, ""}, api.OK}, {edit{"set", 41, 1, "=1+"}, api.ErrForm},
		{edit{"set", 1, 1, "5"}, api.OK}, {edit{"set", 2, 49, "=A1"}, api.OK}, {edit{"set", 40, 50, "=A1+1"}, api.OK}, {edit{"insert", 3, 0, ""}, api.OK}, {edit{"set", 3, 3, "1"}, api.ErrFull},
		{edit{"set", 1, 2, ""}, api.OK}, {edit{"set", 3, 3, "=A1*2"}, api.OK}, {edit{"set", 1, 2, "2"}, api.ErrFull}, {edit{"delete", 3, 0, ""}, api.OK}, {edit{"set", 1, 2, "2"}, api.OK},
	} {
		if e := d.of(g); e != d.want {
			t.Fatalf("%v: the sheet answers %d", d.edit, int(e))
		}
		if e := d.of(c); e != d.want {
			t.Errorf("%v: %d, not %d", d.edit, int(e), int(d.want))
		}
		holds(t, c, g, d.edit)
	}
}

// P18.2: the same text again changes nothing, whatever it is.
func TestSetAgain(t *testing.T) {
	const lines = "A1 1; B1 =A1+1; C1 =SUM(A1:B1); A2 =A2; A3 =A4; A4 =A3; B4 =IFERROR(A4,2); A5 'x; A6 TRUE; A7 #NUM!"
	c, g := New(gridOf(t, lines)), gridOf(t, lines)
	before := shown(c.All())
	for range 2 {
		for _, s := range append(parts(lines), "B1 =(A1 + 1)", "D9 ") {
			at, text := line(t, s)
			do(t, c, g, edit{"set", at.Row, at.Col, text})
			comes(t, c, before, s)
		}
	}
}

// P18.2: what Value and Text answer of places that are none, whatever there is elsewhere.
func TestOut(t *testing.T) {
	g := gridOf(t, "A1 1; AZ1 =A1; E5 x; A5 2; E1 3; AZ52 4; AZ1000 5; A1000 6")
	for _, c := range []*Calc{New(g), New(nil)} {
		for _, at := range noPlaces() {
			v, e := c.Value(at.Row, at.Col)
			text, e2 := c.Text(at.Row, at.Col)
			if v != (api.Value{}) || e != api.ErrOut || text != "" || e2 != api.ErrOut {
				t.Errorf("%v: %v, %d, %q, %d", at, v, int(e), text, int(e2))
			}
		}
	}
	holds(t, New(g), g)
}

// P18.2: All goes row by row, in each from left to right, however the cells came, and tells none that is Blank, but those that are an empty text.
func TestAll(t *testing.T) {
	lines := parts("A1 1; B1 =A1; AZ1 x; A2 '; B2 =A2; C2 =\"\"; Z9 =A9; AA9 =A999; B10 TRUE; A11 #REF!; A999 =1/0; A1000 5; AZ1000 =A1000")
	want := "A1 1; B1 1; AZ1 'x; A2 '; B2 '; C2 '; Z9 0; AA9 #DIV/0!; B10 TRUE; A11 #REF!; A999 #DIV/0!; A1000 5; AZ1000 5"
	chance := byChance(2)
	for range 40 {
		chance.Shuffle(len(lines), func(i, j int) { lines[i], lines[j] = lines[j], lines[i] })
		c := New(nil)
		for _, s := range lines {
			at, text := line(t, s)
			c.Set(at.Row, at.Col, text)
		}
		comes(t, c, want, lines)
		comes(t, New(gridOf(t, strings.Join(lines, "; "))), want, lines)
		for _, at := range []string{"A1", "A2", "AZ1000"} {
			place, _ := line(t, at)
			c.Set(place.Row, place.Col, "")
		}
		comes(t, c, "B1 0; AZ1 'x; B2 0; C2 '; Z9 0; AA9 #DIV/0!; B10 TRUE; A11 #REF!; A999 #DIV/0!; A1000 5", lines)
	}
}

// P18.1: formulas that name cells and ranges, blank ones too, one another, over many cells, ahead of them and behind.
func TestFormulas(t *testing.T) {
	for _, try := range []struct{ lines, want string }{
		{"B2 =A1", "B2 0"}, {"B2 =A1&\"x\"", "B2 'x"}, {"B2 =A1=\"\"", "B2 TRUE"}, {"B2 =SUM(A1:A9)", "B2 0"}, {"B2 =AVERAGE(A1:A9)", "B2 #DIV/0!"},
		{"A1 =A2+1; A2 =A3+1; A3 1", "A1 3; A2 2; A3 1"},
		{"A1 1; A2 =A1+1; A3 =A2+1", "A1 1; A2 2; A3 3"},
		{"A1 =C1+1; B1 =A1+1; C1 1", "A1 2; B1 3; C1 1"},
		{"A1 =B1; B1 =A2; A2 =B2; B2 7", "A1 7; B1 7; A2 7; B2 7"},
		{"AZ1000 =A1+1; A1 1", "A1 1; AZ1000 2"}, {"A1 =AZ1000+1; AZ1000 =B5; B5 3", "A1 4; B5 3; AZ1000 3"},
		{"A1 =SUM(A2:C3); A2 1; B3 =A2+1; C3 =B3*2", "A1 7; A2 1; B3 2; C3 4"},
		{"A1 =SUM(C3:A2); A2 1; B3 =A2+1; C3 =B3*2", "A1 7; A2 1; B3 2; C3 4"},
		{"A9 =SUM($A$1:A8)+A8; A1 1; A4 =A1+1; A8 =SUM(A$1:A7)", "A1 1; A4 2; A8 3; A9 9"},
		{"A1 =$B$1+B$1+$B1; B1 2", "A1 6; B1 2"},
		{"A1 =COUNT(A2:A9); A3 1; A5 'x; A7 =1+1; A8 =A7=2", "A1 2; A3 1; A5 'x; A7 2; A8 TRUE"},
		{"A1 TRUE; A2 =IF(A1,B1,C1); B1 5; C1 =1/0", "A1 TRUE; B1 5; C1 #DIV/0!; A2 5"},
		{"A1 =1/0; A2 =A1+1; A3 =IFERROR(A1,5); A4 =A2&A3; A5 =ISERROR(A4)", "A1 #DIV/0!; A2 #DIV/0!; A3 5; A4 #DIV/0!; A5 TRUE"},
		{"A1 =INDEX(B1:C2,A2,A3); A2 =B1; A3 =2; B1 2; C2 =B1*5; C1 =1/0", "A1 10; B1 2; C1 #DIV/0!; A2 2; C2 10; A3 2"},
		{"A1 '5; A2 =A1+1; A3 =SUM(A1:A2); A4 =A1; A5 =SUM(A4)", "A1 '5; A2 6; A3 6; A4 '5; A5 5"},
		{"A1 =\"A2\"&1; A2 5; A3 =\"A3\"", "A1 'A21; A2 5; A3 'A3"},
		{"A1 922337203685477.5807; A2 =A1+A1; A3 =A1+0.0001; A4 =-A1", "A1 922337203685477.5807; A2 #NUM!; A3 #NUM!; A4 -922337203685477.5807"},
		{"A1 #CYCLE!; A2 =A1+1; A3 =#CYCLE!; A4 =ISERROR(A3)", "A1 #CYCLE!; A2 #CYCLE!; A3 #CYCLE!; A4 TRUE"},
		{"A1 1; B1 =A1+A1; C1 =B1+A1; D1 =C1+B1+A1; E1 =SUM(A1:D1)", "A1 1; B1 2; C1 3; D1 6; E1 12"},
		{"E1 1; D1 =E1+E1; C1 =D1+E1; B1 =C1+D1+E1; A1 =SUM(B1:E1)", "A1 12; B1 6; C1 3; D1 2; E1 1"},
	} {
		g := gridOf(t, try.lines)
		comes(t, New(g), try.want, try.lines)
		holds(t, New(g), g, try.lines)
		// One after the other, and the other way round.
		for range 2 {
			c, g := New(nil), grid.New()
			list := parts(try.lines)
			for _, s := range list {
				at, text := line(t, s)
				do(t, c, g, edit{"set", at.Row, at.Col, text})
			}
			comes(t, c, try.want, list)
			slices.Reverse(list)
			try.lines = strings.Join(list, "; ")
		}
	}
}

// P18.2: rows come and go ahead of, at and behind what formulas name; the first one and the last.
func TestRows(t *testing.T) {
	for _, try := range []struct {
		lines             string
		at                int
		inserted, deleted string
	}{
		{"A1 =A2+1; A2 5; A3 x", 1, "A2 6; A3 5; A4 'x", "A1 5; A2 'x"},
		{"A1 =A2+1; A2 5; A3 x", 2, "A1 6; A3 5; A4 'x", "A1 #REF!; A2 'x"},
		{"A1 =A2+1; A2 5; A3 x", 3, "A1 6; A2 5; A4 'x", "A1 6; A2 5"},
		{"A1 =A2+1; A2 5; A3 x", 4, "A1 6; A2 5; A3 'x", "A1 6; A2 5; A3 'x"},
		{"A1 =A2+1; A2 5; A3 x", 1000, "A1 6; A2 5; A3 'x", "A1 6; A2 5; A3 'x"},
		{"A1 1; A2 2; A3 4; A9 =SUM(A1:A3)+A2", 2, "A1 1; A3 2; A4 4; A10 9", "A1 1; A2 4; A8 #REF!"},
		{"A1 1; A2 2; A3 4; A9 =SUM(A1:A3)", 2, "A1 1; A3 2; A4 4; A10 7", "A1 1; A2 4; A8 5"},
		{"A1 1; A2 2; A3 4; A9 =SUM(A1:A3)", 3, "A1 1; A2 2; A4 4; A10 7", "A1 1; A2 2; A8 3"},
		{"A1 1; A2 2; A3 4; A9 =SUM(A1:A3)", 4, "A1 1; A2 2; A3 4; A10 7", "A1 1; A2 2; A3 4; A8 7"},
		{"A1 1; A2 2; A3 4; A9 =SUM(A1:A3)", 1, "A2 1; A3 2; A4 4; A10 7", "A1 2; A2 4; A8 6"},
		{"A1 1; A2 2; A3 4; A9 =SUM(A1:A3)", 9, "A1 1; A2 2; A3 4; A10 7", "A1 1; A2 2; A3 4"},
		{"A5 =A6; A6 =A7; A7 3", 6, "A5 3; A7 3; A8 3", "A5 #REF!; A6 3"},
		{"A5 =A6; A6 =A7; A7 3", 5, "A6 3; A7 3; A8 3", "A5 3; A6 3"},
		{"A5 =A6; A6 =A7; A7 3", 7, "A5 3; A6 3; A8 3", "A5 #REF!; A6 #REF!"},
		{"A5 =A6; A6 =A5; A7 =IFERROR(A5,1)", 6, "A5 #CYCLE!; A7 #CYCLE!; A8 1", "A5 #REF!; A6 1"},
		{"A5 =A6; A6 =A5; A7 =IFERROR(A5,1)", 5, "A6 #CYCLE!; A7 #CYCLE!; A8 1", "A5 #REF!; A6 1"},
		{"A5 =SUM(A4:A6); A6 2", 5, "A6 #CYCLE!; A7 2", "A5 2"},
		{"A999 =A1+1; A1 =A1000; B999 =SUM(A1:C1000)-A999", 1000, "A1 #REF!; A999 #REF!; B999 #CYCLE!", "A1 #REF!; A999 #REF!; B999 #CYCLE!"},
		{"A998 7; A999 =A998; A1 =A999", 1, "A2 7; A999 7; A1000 7", "A997 7; A998 7"},
		{"A998 7; A999 =A998; A1 =A999", 999, "A1 7; A998 7; A1000 7", "A1 #REF!; A998 7"},
		{"A1 1; B1 2; AZ1 =A1+B1; A2 4", 1, "A2 1; B2 2; AZ2 3; A3 4", "A1 4"},
		{"", 1, "", ""}, {"", 1000, "", ""},
	} {
		for _, d := range []edit{{"insert", try.at, 0, ""}, {"delete", try.at, 0, ""}} {
			want := try.inserted
			if d.word == "delete" {
				want = try.deleted
			}
			g := gridOf(t, try.lines)
			c := New(g)
			do(t, c, g, d)
			comes(t, c, want, d, try.lines)
			// What hangs on what is known as it is now.
			for _, cell := range g.Cells() {
				do(t, c, g, edit{"set", cell.Row, cell.Col, "100"})
				do(t, c, g, edit{"set", cell.Row, cell.Col, cell.Text})
			}
			for row := 1; row <= 10; row++ {
				do(t, c, g, edit{"set", row, 1, "50"})
			}
		}
	}
}

// P18.2: each row comes and goes, of a sheet with something in many of them.
func TestAllRows(t *testing.T) {
	g := grid.New()
	for row := 1; row <= 999; row += 37 {
		g.Set(row, 1, fmt.Sprint(row))
		g.Set(row, 2, fmt.Sprintf("=A%d+SUM(A$%d:$C%d)", 1+row*13%999, 1+row*17%999, 1+row*29%999))
		g.Set(row, 4, fmt.Sprintf("=B%d*2", 1+(row+37)%999))
	}
	for at := 1; at <= 1000; at++ {
		if at > 80 && at < 920 && at%37 > 2 {
			continue
		}
		for _, word := range []string{"insert", "delete"} {
			copied := g.Copy()
			do(t, New(g), copied, edit{word: word, row: at})
		}
	}
}

// P18.2, P18.6: rows that are none, a cell that would leave the sheet, a formula that would be too long: nothing is changed.
func TestRowsRefused(t *testing.T) {
	long := "=A9&\"" + strings.Repeat("a", 300-6) + "\""
	gone := "=A5&\"" + strings.Repeat("a", 300-6) + "\""
	for _, try := range []struct {
		lines            string
		at               int
		inserts, deletes api.Errno
	}{
		{"A1 1; A2 =A1", 0, api.ErrOut, api.ErrOut},
		{"A1 1; A2 =A1; A1000 =A2", 1, api.ErrFull, api.OK},
		{"A1 1; A2 =A1; A1000 =A2", 2, api.ErrFull, api.OK},
		{"A1 1; A2 =A1; AZ1000 x", 1000, api.ErrFull, api.OK},
		{"A1 1; A2 =A1; AZ1000 x", 999, api.ErrFull, api.OK},
		{"A1 1; A2 =A1; A999 x", 999, api.OK, api.OK},
		{"A1 1; B1 =A1; A2 " + long, 9, api.ErrLong, api.ErrLong},
		{"A1 1; B1 =A1; A2 " + long, 10, api.OK, api.OK},
		{"A1 1; B1 =A1; A2 " + long + "; A1000 5", 1, api.ErrFull, api.OK},
		{"A1 1; B1 =A1; A2 " + gone, 5, api.OK, api.ErrLong},
		{"A1 1; B1 =A1; A5 " + gone, 5, api.OK, api.OK},
		{"A1 1; B1 =A1; A5 " + long, 5, api.ErrLong, api.OK},
	} {
		rows := []int{try.at}
		if try.at == 0 {
			rows = noRows()
		}
		for _, at := range rows {
			for word, want := range map[string]api.Errno{"insert": try.inserts, "delete": try.deletes} {
				g := gridOf(t, try.lines)
				c := New(g)
				before := c.All()
				do(t, c, g, edit{word: word, row: at})
				if e := (edit{word: word, row: at}).of(New(gridOf(t, try.lines))); e != want {
					t.Errorf("%s at %d of %s: %d, not %d", word, at, try.lines, int(e), int(want))
				}
				if want != api.OK && (c.Work() != 0 || !slices.Equal(c.All(), before)) {
					t.Errorf("%s at %d of %s: Work %d, %s", word, at, try.lines, c.Work(), shown(c.All()))
				}
				do(t, c, g, edit{"set", 1, 1, "8"})
				do(t, c, g, edit{"set", 9, 1, "9"})
			}
		}
	}
}
