package grid

import (
	"fmt"
	"slices"
	"strings"
	"testing"

	"cadastre/api"
	"cadastre/coord"
)

// P12.2: by hand: cells ahead of the row, in it, and behind it, with references and ranges to the row that goes.
func TestRowsByHand(t *testing.T) {
	for _, c := range []struct {
		lines             string
		at                int
		inserted, deleted string
	}{
		{"A1 =A2+1; A2 5; A3 x", 2, "A1 =A3+1; A3 5; A4 x", "A1 =#REF!+1; A2 x"},
		{"A1 =A2+1; A2 5; A3 x", 1, "A2 =A3+1; A3 5; A4 x", "A1 5; A2 x"},
		{"A1 =A2+1; A2 5; A3 x", 3, "A1 =A2+1; A2 5; A4 x", "A1 =A2+1; A2 5"},
		{"A1 =A2+1; A2 5; A3 x", 4, "A1 =A2+1; A2 5; A3 x", "A1 =A2+1; A2 5; A3 x"},
		{"A1 =A2+1; A2 5; A3 x", 1000, "A1 =A2+1; A2 5; A3 x", "A1 =A2+1; A2 5; A3 x"},
		{"A1 1; B1 2; AZ1 3; A2 4; AZ2 5", 1, "A2 1; B2 2; AZ2 3; A3 4; AZ3 5", "A1 4; AZ1 5"},
		{"A1 1; B1 2; AZ1 3; A2 4; AZ2 5", 2, "A1 1; B1 2; AZ1 3; A3 4; AZ3 5", "A1 1; B1 2; AZ1 3"},
		{"A5 =A5; B5 =$B$5+B4+B$6", 5, "A6 =A6; B6 =$B$6+B4+B$7", ""},
		{"A5 =A5; B5 =$B$5+B4+B$6", 4, "A6 =A6; B6 =$B$6+B5+B$7", "A4 =A4; B4 =$B$4+#REF!+B$5"},
		{"A9 =SUM(A1:A5)+A3", 3, "A10 =SUM(A1:A6)+A4", "A8 =SUM(A1:A4)+#REF!"},
		{"A9 =SUM(A3:C3)+SUM($A$3:$A$3)", 3, "A10 =SUM(A4:C4)+SUM($A$4:$A$4)", "A8 =SUM(#REF!)+SUM(#REF!)"},
		{"A9 =SUM(A5:A3,A3:B4,A2:A3)", 3, "A10 =SUM(A6:A4,A4:B5,A2:A4)", "A8 =SUM(A4:A3,A3:B3,A2:A2)"},
		{"A1 =A999; A2 =SUM(A998:A999)", 999, "A1 =A1000; A2 =SUM(A998:A1000)", "A1 =#REF!; A2 =SUM(A998:A998)"},
		{"A1 =A1000; A2 =SUM(A999:A1000); A3 =SUM(B1000:A1000)", 1000, "A1 =#REF!; A2 =SUM(A999:A1000); A3 =SUM(#REF!)", "A1 =#REF!; A2 =SUM(A999:A999); A3 =SUM(#REF!)"},
		{"A1 =A1000; A2 =SUM(A999:A1000); A3 =SUM(B1000:A1000)", 5, "A1 =#REF!; A2 =SUM(A1000:A1000); A3 =SUM(#REF!)", "A1 =A999; A2 =SUM(A998:A999); A3 =SUM(B999:A999)"},
		{`A1 'A3; A2 A3; A4 ="A3"&A3; A5 =#REF!; A6 3; A7 TRUE; A8 #NUM!`, 3, `A1 'A3; A2 A3; A5 ="A3"&A4; A6 =#REF!; A7 3; A8 TRUE; A9 #NUM!`, `A1 'A3; A2 A3; A3 ="A3"&#REF!; A4 =#REF!; A5 3; A6 TRUE; A7 #NUM!`},
		{"B998 1; B999 2", 998, "B999 1; B1000 2", "B998 2"},
		{"B998 1; B999 2", 999, "B998 1; B1000 2", "B998 1"},
		{"B998 1; B999 2", 1, "B999 1; B1000 2", "B997 1; B998 2"},
		{"", 1, "", ""},
		{"", 1000, "", ""},
	} {
		for _, d := range deals(c.at) {
			want := c.inserted
			if !d.comes {
				want = c.deleted
			}
			var lines []string
			if c.lines != "" {
				lines = strings.Split(c.lines, "; ")
			}
			g, s := sheetOf(t, lines...)
			if e := d.of(g); e != api.OK {
				t.Errorf("%v of %s: %d", d, c.lines, int(e))
			}
			if got := strings.Join(texts(g), "; "); got != want {
				t.Errorf("%v of %s: %s, not %s", d, c.lines, got, want)
			}
			s, _ = s.turned(d)
			holdsAll(t, g, s.cells(), d, c.lines)
		}
	}
}

// turn does a deal to both sheets, and holds them against one another; it answers the sheet then, and whether it was not refused.
func turn(t *testing.T, g *Grid, s sheet, d deal) (sheet, bool) {
	t.Helper()
	then, want := s.turned(d)
	if e := d.of(g); e != want {
		t.Errorf("%v: %d, not %d", d, int(e), int(want))
	}
	holds(t, g, then.cells(), d)
	return then, want == api.OK
}

// P12.2: each row comes or goes, of a sheet with something in many of them, the first and the last but one too.
func TestAllRows(t *testing.T) {
	g, s := New(), newSheet()
	for row := 1; row <= 999; row++ {
		text := fmt.Sprint(row)
		if row%3 == 0 {
			text = fmt.Sprintf("=A%d+SUM(B$%d:$C%d)", 1+row*13%999, 1+row*17%999, 1+row*29%999)
		}
		if row%5 == 0 || row < 20 || row > 980 {
			put(t, g, s, coord.Print(api.Ref{Row: row, Col: 1 + row%52})+" "+text)
		}
	}
	for at := 1; at <= 1000; at++ {
		for _, d := range deals(at) {
			turn(t, g.Copy(), s, d)
		}
	}
	holdsAll(t, g, s.cells())
}

// P12.2: rows that the sheet has not: ErrOut ahead of all else, and nothing is changed.
func TestRowsOut(t *testing.T) {
	for _, lines := range [][]string{nil, {"A1 1", "A2 =SUM(A1:A5)"}, {"A1 1", "A1000 =A1"}, {"A1 " + long("=A9", 300), "A2 " + long("=A1", 300), "A1000 1"}} {
		g, s := sheetOf(t, lines...)
		for _, at := range ends {
			for _, d := range deals(at) {
				if e := d.of(g); e != api.ErrOut {
					t.Errorf("%v: %d", d, int(e))
				}
			}
		}
		holdsAll(t, g, s.cells())
	}
}

// P12.2: a cell in the last row: none can come, wherever it would; ahead of a formula that is too long.
func TestLastRow(t *testing.T) {
	for _, last := range []string{"A1000 1", "AZ1000 '", "B1000 =A1", "C1000 " + long("=A9", 300)} {
		for _, more := range []string{"A1 x", "B9 =A9", "A5 " + long("=A9", 300), "A6 " + long("=B9+A5", 300)} {
			g, s := sheetOf(t, last, more, "A9 7", "B8 =SUM(A1:A1000)+A1000")
			for _, at := range []int{1, 2, 5, 9, 10, 500, 999, 1000} {
				if e := g.Insert(at); e != api.ErrFull {
					t.Errorf("Insert(%d) with %s: %d", at, last, int(e))
				}
			}
			holdsAll(t, g, s.cells(), last)
			then, ok := turn(t, g, s, deal{false, 1000})
			if !ok {
				t.Fatalf("Delete(1000) with %s is refused", last)
			}
			turn(t, g, then, deal{true, 1000})
		}
	}
	g, s := sheetOf(t, "A999 1")
	s, _ = turn(t, g, s, deal{true, 1000})
	s, _ = turn(t, g, s, deal{true, 999})
	if got := texts(g); !slices.Equal(got, []string{"A1000 1"}) {
		t.Errorf("%v", got)
	}
	turn(t, g, s, deal{true, 1000})
	if e := g.Insert(1); e != api.ErrFull {
		t.Errorf("Insert(1): %d", int(e))
	}
	put(t, g, s, "A1000 ")
	if _, ok := turn(t, g, s, deal{true, 1}); !ok {
		t.Error("refused, though the last row is blank")
	}
}

// P12.2: formulas whose text would have 300 bytes, and 301, when a row comes or goes.
func TestGrown(t *testing.T) {
	for _, c := range []struct {
		beginning string
		d         deal
		more      int // how many bytes it has more then
	}{
		{"=A9", deal{true, 9}, 1}, {"=A9", deal{true, 1}, 1}, {"=A9", deal{true, 10}, 0}, {"=A99", deal{true, 99}, 1}, {"=$A$999", deal{true, 5}, 1}, {"=A9+A99+A8", deal{true, 5}, 2}, {"=SUM(A9:A99)", deal{true, 9}, 2}, {"=SUM(A9:A99)", deal{true, 10}, 1}, {"=SUM(A99:A9)", deal{true, 10}, 1}, {"=A10", deal{true, 5}, 0}, {"=A9+A9+A9", deal{true, 2}, 3},
		{"=A1000", deal{true, 5}, 0}, {"=AA1000", deal{true, 5}, -1}, {"=A9+$AA$1000", deal{true, 5}, -2}, {"=SUM(A1000:A1000)", deal{true, 5}, -6}, {"=SUM(A9:A1000)", deal{true, 5}, 1}, {"=SUM(A999:A1000)", deal{true, 5}, 1},
		{"=A5", deal{false, 5}, 3}, {"=$A5", deal{false, 5}, 2}, {"=$A$5", deal{false, 5}, 1}, {"=A55", deal{false, 55}, 2}, {"=A555", deal{false, 555}, 1}, {"=AA555", deal{false, 555}, 0}, {"=$AA$555", deal{false, 555}, -2}, {"=A5", deal{false, 6}, 0}, {"=A10", deal{false, 5}, -1}, {"=A10", deal{false, 10}, 2}, {"=A5+A10", deal{false, 5}, 2}, {"=A5+A5", deal{false, 5}, 6}, {"=A1000", deal{false, 1000}, 0}, {"=A1000", deal{false, 1}, -1},
		{"=SUM(A5:A5)", deal{false, 5}, 0}, {"=SUM(A5:A6)", deal{false, 5}, 0}, {"=SUM($A5:A5)", deal{false, 5}, -1}, {"=SUM(A9:A10)", deal{false, 5}, -1}, {"=SUM(A5:A10)", deal{false, 5}, -1}, {"=SUM(A5:A10)+A5", deal{false, 5}, 2},
	} {
		for bytes := 290; bytes <= 300; bytes++ {
			text := long(c.beginning, bytes)
			// Others beside it change with the rows, too: they must not, if it is refused.
			g, s := sheetOf(t, "A4 =A9+A5", "B6 7", "B7 "+text, "C8 =SUM(A1:A9)", "A9 x", "A10 =B10", "C1 =A9")
			_, ok := turn(t, g, s, c.d)
			if ok != (bytes+c.more <= 300) {
				t.Errorf("%v of %d bytes that begin %s: not refused is %v", c.d, bytes, c.beginning, ok)
			}
			if !ok {
				holds(t, g, s.cells(), c.d, c.beginning, bytes)
			} else if got := longest(g); got != bytes+c.more {
				t.Errorf("%v of %d bytes that begin %s: %d bytes", c.d, bytes, c.beginning, got)
			}
		}
	}
}

// longest is how many bytes the longest text of a sheet has.
func longest(g *Grid) int {
	bytes := 0
	for _, cell := range g.Cells() {
		bytes = max(bytes, len(cell.Text))
	}
	return bytes
}

// P12.2: formulas in the row that goes are never too long.
func TestGrownAndGone(t *testing.T) {
	for _, beginning := range []string{"=A5", "=A5+A5+$B$5", "=SUM(A5:A10)+A5", "=B5"} {
		for bytes := 295; bytes <= 300; bytes++ {
			g, s := sheetOf(t, "B5 "+long(beginning, bytes), "C5 "+long(beginning, 300), "A4 =A5", "A6 =A7")
			_, ok := turn(t, g, s, deal{false, 5})
			if got := texts(g); !ok || !slices.Equal(got, []string{"A4 =#REF!", "A5 =A6"}) {
				t.Errorf("%s of %d bytes: %v", beginning, bytes, got)
			}
		}
		// In the row ahead of it, or behind it, they are.
		for _, row := range []int{4, 6} {
			g, s := sheetOf(t, fmt.Sprintf("B%d ", row)+long(beginning, 300), "C5 "+long(beginning, 300), "A4 =A5", "A6 =A7")
			if _, ok := turn(t, g, s, deal{false, 5}); ok {
				t.Errorf("%s in row %d is not refused", beginning, row)
			}
		}
	}
	// A long text that is no formula is never too long.
	g, s := sheetOf(t, "A5 "+strings.Repeat("A9+", 100), "A6 '"+strings.Repeat("A5+", 99), "B6 "+long("=A1", 300))
	for _, d := range deals(5) {
		if _, ok := turn(t, g.Copy(), s, d); !ok {
			t.Errorf("%v is refused", d)
		}
	}
}

// P12.2: what is refused changes nothing: one formula that is too long among many cells, wherever it lies.
func TestRefusedAmongMany(t *testing.T) {
	for i := range 40 {
		g, s := New(), newSheet()
		for row := 1; row <= 40; row++ {
			put(t, g, s, fmt.Sprintf("A%d =A9+B5+SUM(C1:C9)", row))
			put(t, g, s, fmt.Sprintf("B%d %d", row, row))
		}
		put(t, g, s, fmt.Sprintf("C%d ", i+1)+long("=A9+A6", 300))
		for _, d := range []deal{{true, 1}, {true, 9}, {false, 9}, {false, 6}} {
			if !d.comes && d.at == i+1 {
				continue
			}
			if _, ok := turn(t, g, s, d); ok {
				t.Errorf("%v is not refused, with the long one in row %d", d, i+1)
			}
			holds(t, g, s.cells(), d)
		}
		put(t, g, s, fmt.Sprintf("C%d ", i+1))
		for _, d := range []deal{{true, 1}, {true, 9}, {false, 9}} {
			ok := false
			if s, ok = turn(t, g, s, d); !ok {
				t.Errorf("%v is refused", d)
			}
		}
	}
}

// P12.1 to P12.3: whatever is done, one after another, by chance; what is refused changes nothing.
func TestByChance(t *testing.T) {
	m := newMaker(123)
	seen := map[string]int{}
	for range 80 {
		g, s := New(), newSheet()
		for i := range 200 {
			name, e, want := "Set", api.OK, api.OK
			d := deal{m.Intn(2) == 0, m.row()}
			switch m.Intn(8) {
			case 0, 1:
				switch m.Intn(10) {
				case 0:
					d.at = ends[m.Intn(len(ends))]
				case 1, 2, 3:
					d.at = m.named(g)
				}
				name, e = d.String()[:6], d.of(g)
				s, want = s.turned(d)
			case 2:
				// A formula that may be too long later on, or a cell in the last row, is not to be there for ever.
				row, col := m.place()
				for _, cell := range g.Cells() {
					if len(cell.Text) > 250 || cell.Row == 1000 {
						row, col = cell.Row, cell.Col
					}
				}
				e, want = g.Set(row, col, ""), s.set(row, col, "")
			default:
				row, col := m.place()
				text := m.text()
				e, want = g.Set(row, col, text), s.set(row, col, text)
			}
			if e != want {
				t.Fatalf("%s %v: %d, not %d", name, d, int(e), int(want))
			}
			seen[fmt.Sprint(name, int(e))]++
			holds(t, g, s.cells(), i, name, d)
		}
		holdsAll(t, g, s.cells())
	}
	for _, name := range strings.Fields("Set0 Set2 Set4 Set121 Insert0 Insert2 Insert120 Insert121 Delete0 Delete2 Delete121") {
		if seen[name] < 20 {
			t.Errorf("%s: seen %d times", name, seen[name])
		}
	}
	if len(seen) != 11 {
		t.Errorf("%v", seen)
	}
}

// loaded is a new sheet into which the texts of another one's cells are set, in an order by chance.
func loaded(t *testing.T, m maker, g *Grid) *Grid {
	t.Helper()
	list, other := g.Cells(), New()
	m.Shuffle(len(list), func(i, j int) { list[i], list[j] = list[j], list[i] })
	for _, cell := range list {
		if e := other.Set(cell.Row, cell.Col, cell.Text); e != api.OK {
			t.Errorf("%q can't be loaded again: %d", cell.Text, int(e))
		}
	}
	return other
}

// P12.4: a sheet is the same when it is loaded again, in any order, also behind rows that came and went.
func TestLoadedAgain(t *testing.T) {
	m := newMaker(124)
	for i := range 150 {
		g, _ := m.sheet(60, true)
		for range 1 + i%8 {
			for _, d := range []deal{{true, m.row()}, {false, m.row()}} {
				d.of(g)
			}
			holds(t, loaded(t, m, g), g.Cells(), i)
		}
		holdsAll(t, loaded(t, m, g), g.Cells(), i)
	}
	g, s := full(t)
	holdsAll(t, loaded(t, m, g), s.cells(), "full")
	deepest := strings.Repeat("-(1+", 20) + "A1" + strings.Repeat(")", 20)
	g, s = sheetOf(t, "A1 ="+deepest, "A2 ="+strings.Repeat("ABS(", 40)+"A1"+strings.Repeat(")", 40), "A3 ="+strings.Repeat("(1-", 40)+"A1"+strings.Repeat(")", 40), "A4 "+long("=A1+A2", 300), "A5 ="+strings.Repeat("A1+", 99)+"A1", "A6 ="+strings.Repeat("-", 40)+"1")
	holdsAll(t, loaded(t, m, g), s.cells(), "deep")
	s, _ = turn(t, g, s, deal{false, 4})
	holds(t, loaded(t, m, g), s.cells(), "deep, and a row gone")
	for _, text := range []string{"'", "''", "'=1", " =1", "007", "1.50", "#NO!", "99999999999999999999", strings.Repeat("'", 300), "\x00\xff"} {
		g, s := sheetOf(t, "A1 "+text, "B1 =A1")
		holds(t, loaded(t, m, g), s.cells(), text)
	}
}

// P12.5: there and back: a row that came goes again.
func TestThereAndBack(t *testing.T) {
	m := newMaker(125)
	back, refused := 0, 0
	for i := range 400 {
		g, s := m.sheet(30, false)
		if i%4 == 0 {
			put(t, g, s, "D9 "+long("=A9+B$99", 297+m.Intn(4)))
		}
		for range 5 {
			at := m.row()
			if e := g.Insert(at); e != api.OK {
				refused++
				holds(t, g, s.cells(), at)
				continue
			}
			back++
			if e := g.Delete(at); e != api.OK {
				t.Errorf("there, but not back at %d: %d", at, int(e))
			}
			holds(t, g, s.cells(), at)
		}
		holdsAll(t, g, s.cells(), i)
	}
	if back < 1000 || refused < 50 {
		t.Errorf("%d came and went, %d were refused", back, refused)
	}
	g, s := sheetOf(t, "A1 =A999+SUM(B1:B999)", "A999 =A1", "C500 =SUM(A500:C500,$A$999:A1)", "B998 'x")
	for at := 1; at <= 1000; at++ {
		if g.Insert(at) != api.OK || g.Delete(at) != api.OK {
			t.Errorf("refused at %d", at)
		}
		holds(t, g, s.cells(), at)
	}
}

// P12.5: what names the last row does not come back.
func TestThereAndNotBack(t *testing.T) {
	g, _ := sheetOf(t, "A1 =A1000", "A2 =SUM(A1:A1000)", "A3 =SUM(A1000:B1000)", "A4 =A999")
	if g.Insert(9) != api.OK || g.Delete(9) != api.OK {
		t.Error("refused")
	}
	if got := texts(g); !slices.Equal(got, []string{"A1 =#REF!", "A2 =SUM(A1:A999)", "A3 =SUM(#REF!)", "A4 =A999"}) {
		t.Errorf("%v", got)
	}
}

// From arguments alone: the same calls make the same sheet again, beside whatever else there is; how it came is not to be seen.
func TestAgain(t *testing.T) {
	m := newMaker(126)
	var grids []*Grid
	for range 3 {
		grids = append(grids, New())
	}
	for i := range 400 {
		row, col := m.place()
		text := m.text()
		d := deal{m.Intn(2) == 0, m.row()}
		for _, g := range grids {
			if i%9 == 0 {
				d.of(g)
			} else {
				g.Set(row, col, text)
			}
			New().Set(row, col, "other")
		}
		holds(t, grids[1], grids[0].Cells(), i)
		holds(t, grids[2], grids[0].Cells(), i)
	}
	// Three ways to one sheet.
	g, s := sheetOf(t, "A1 =A3+1", "A3 5")
	h, _ := sheetOf(t, "A1 =A2+1", "A2 5", "B7 x", "B7 ")
	k, _ := sheetOf(t, "A2 =A3 + 1", "A3 5", "C1 9")
	if h.Insert(2) != api.OK || k.Delete(1) != api.OK || k.Insert(2) != api.OK {
		t.Error("refused")
	}
	for _, other := range []*Grid{g, h, k} {
		holdsAll(t, other, s.cells())
	}
}
