package grid

import (
	"fmt"
	"slices"
	"strings"
	"testing"

	"cadastre/api"
	"cadastre/parse"
	"cadastre/value"
)

// The chapter's example.
func TestExample(t *testing.T) {
	g := New()
	if g.Set(1, 1, "=A2+1") != api.OK || g.Insert(2) != api.OK {
		t.Error("refused")
	}
	if cell, is := g.Cell(1, 1); !is || cell.Text != "=A3+1" {
		t.Errorf("%+v, %v", cell, is)
	}
}

// P12.1: a new sheet is blank all over; each one by itself.
func TestNew(t *testing.T) {
	g := New()
	holdsAll(t, g, nil)
	g.Set(1, 1, "1")
	holds(t, New(), nil)
	holdsAll(t, New().Copy(), nil)
}

// P12.1: what is no formula is its literal, and its text as it was put in.
func TestLiterals(t *testing.T) {
	for _, c := range []struct {
		text string
		v    api.Value
	}{
		{"5", value.Num(50000)}, {"-1.25", value.Num(-12500)}, {"007", value.Num(70000)}, {"1.50", value.Num(15000)}, {"0.00005", value.Num(1)}, {"-0", value.Num(0)}, {"922337203685477.5807", value.Num(api.Most)}, {"922337203685477.5808", value.Err(api.ENum)}, {"99999999999999999999", value.Err(api.ENum)},
		{"TRUE", value.Bool(true)}, {"FALSE", value.Bool(false)}, {"True", value.Text("True")},
		{"#REF!", value.Err(api.ERef)}, {"#VALUE!", value.Err(api.EValue)}, {"#DIV/0!", value.Err(api.EDiv)}, {"#NUM!", value.Err(api.ENum)}, {"#CYCLE!", value.Err(api.ECycle)}, {"#NO!", value.Text("#NO!")},
		{"'", value.Text("")}, {"''", value.Text("'")}, {"'x", value.Text("x")}, {"'5", value.Text("5")}, {"'=1", value.Text("=1")}, {"'=1+", value.Text("=1+")}, {"'TRUE", value.Text("TRUE")},
		{"x", value.Text("x")}, {" ", value.Text(" ")}, {" 5", value.Text(" 5")}, {"5 ", value.Text("5 ")}, {" =1", value.Text(" =1")}, {" =1+", value.Text(" =1+")}, {"A1", value.Text("A1")}, {"1+1", value.Text("1+1")}, {"-", value.Text("-")}, {"+5", value.Text("+5")}, {"1.", value.Text("1.")}, {"\x00\xff\n", value.Text("\x00\xff\n")}, {"\"a\"", value.Text("\"a\"")},
	} {
		g := New()
		if e := g.Set(2, 3, c.text); e != api.OK {
			t.Errorf("%q: %d", c.text, int(e))
		}
		holds(t, g, []api.Cell{{Row: 2, Col: 3, Text: c.text, V: c.v}}, c.text)
	}
}

// P12.1: a formula is its tree, and its text the one form of it, which is shorter than what was put in, or as long.
func TestWritten(t *testing.T) {
	for _, c := range []struct{ text, want string }{
		{"=1", "=1"}, {"= 1", "=1"}, {"=1 ", "=1"}, {"=A2+1", "=A2+1"}, {"= (A2 + 1)", "=A2+1"}, {"=(((1)))", "=1"}, {"=(A1+(2*3))- (4-5)", "=A1+2*3-(4-5)"}, {"=(1+2)*3", "=(1+2)*3"}, {"=1+(2*3)", "=1+2*3"}, {"=(1+2)+3", "=1+2+3"}, {"=1+(2+3)", "=1+(2+3)"}, {"=-(1)", "=-1"}, {"=-(1+2)", "=-(1+2)"}, {"=-(-(A1))", "=--A1"}, {"=--A1", "=--A1"},
		{"=007", "=7"}, {"=1.50", "=1.5"}, {"=1.00", "=1"}, {"=0.00005", "=0.0001"}, {"=9.99995", "=10"}, {"=0.5", "=0.5"}, {"=TRUE", "=TRUE"}, {"= FALSE", "=FALSE"}, {`="a b"`, `="a b"`}, {`="a""b"`, `="a""b"`}, {`=""`, `=""`}, {`= " " & "="`, `=" "&"="`},
		{"=$A$1 + B$2 - $C3", "=$A$1+B$2-$C3"}, {"=SUM( B2 : A1 , 3 )", "=SUM(B2:A1,3)"}, {"=SUM((A1),(2))", "=SUM(A1,2)"}, {"=#REF!", "=#REF!"}, {"= #DIV/0! / 1", "=#DIV/0!/1"}, {"=IF(1=1, 2, 3)", "=IF(1=1,2,3)"}, {"=(1=2)=3", "=1=2=3"}, {"=1=(2=3)", "=1=(2=3)"}, {"=A1", "=A1"}, {"=1>=2", "=1>=2"},
	} {
		g := New()
		if e := g.Set(7, 4, c.text); e != api.OK {
			t.Errorf("%q: %d", c.text, int(e))
		}
		tree, _, _ := parse.Formula(c.text[1:])
		holds(t, g, []api.Cell{{Row: 7, Col: 4, Text: c.want, Is: true, X: tree}}, c.text)
	}
	g, s := New(), newSheet()
	m := newMaker(121)
	shorter := 0
	for range 3000 {
		text := "=" + m.formula(3, true)
		e := g.Set(5, 5, text)
		if want := s.set(5, 5, text); e != want {
			t.Errorf("%q: %d, not %d", text, int(e), int(want))
		}
		cell, _ := g.Cell(5, 5)
		if e == api.OK && len(cell.Text) > len(text) {
			t.Errorf("%q is written longer: %q", text, cell.Text)
		}
		if e == api.OK && len(cell.Text) < len(text) {
			shorter++
		}
		holds(t, g, s.cells(), text)
	}
	if shorter < 1000 {
		t.Errorf("%d are written shorter", shorter)
	}
}

// wrongPlaces are pairs of which one is no row, or one no column, or both.
func wrongPlaces() []api.Place {
	var places []api.Place
	for _, wrong := range append([]int{53, 1001}, ends...) {
		for _, right := range []int{1, 5, 52} {
			places = append(places, api.Place{Row: right, Col: wrong})
			if wrong != 53 {
				places = append(places, api.Place{Row: wrong, Col: right}, api.Place{Row: wrong, Col: wrong})
			}
		}
	}
	return places
}

// P12.1, P12.3: places that the sheet has not: nothing can be put there, whatever it is, and nothing is there.
func TestOut(t *testing.T) {
	g, s := sheetOf(t, "A1 1", "AZ1 =A1", "E5 x", "A5 2", "E1 3", "AZ52 4", "AZ999 5")
	for _, place := range wrongPlaces() {
		for _, text := range []string{"1", "", "=1", "=", "=1+", "'", strings.Repeat("a", 301), "=" + strings.Repeat("(", 300)} {
			if e := g.Set(place.Row, place.Col, text); e != api.ErrOut {
				t.Errorf("%+v: %q: %d", place, text, int(e))
			}
		}
		if cell, is := g.Cell(place.Row, place.Col); is || !alike(cell, api.Cell{}) {
			t.Errorf("%+v: %+v, %v", place, cell, is)
		}
	}
	holdsAll(t, g, s.cells())
}

// P12.1: all places that the sheet has, one by one.
func TestAllPlaces(t *testing.T) {
	g := New()
	for row := 1; row <= 1000; row++ {
		for col := 1; col <= 52; col++ {
			text := fmt.Sprint(row, "-", col)
			if e := g.Set(row, col, text); e != api.OK {
				t.Fatalf("Set(%d, %d): %d", row, col, int(e))
			}
			cell, is := g.Cell(row, col)
			if !is || g.Len() != 1 || !alike(cell, cellOf(row, col, text)) {
				t.Fatalf("Cell(%d, %d): %+v, %v", row, col, cell, is)
			}
			if e := g.Set(row, col, ""); e != api.OK || g.Len() != 0 {
				t.Fatalf("Set(%d, %d) of the empty text: %d", row, col, int(e))
			}
		}
	}
	holdsAll(t, g, nil)
}

// P12.1: texts of 300 bytes and of 301, also those of which the written form would be short, into cells that are blank and those that are not.
func TestLong(t *testing.T) {
	for _, other := range []string{"A1", "B1"} {
		for _, text := range []string{
			strings.Repeat("a", 300), "'" + strings.Repeat("a", 299), strings.Repeat(" ", 300), strings.Repeat("\xff", 300), strings.Repeat("5", 300),
			"=" + strings.Repeat(" ", 298) + "1", "=1" + strings.Repeat(" ", 298), long("=A1", 300), `="` + strings.Repeat("a", 297) + `"`, "=" + strings.Repeat("A1+", 99) + "A1", "=" + strings.Repeat("-", 40) + "1" + strings.Repeat("+1", 129),
		} {
			g, s := sheetOf(t, other+" =A2", "C9 x")
			if e := g.Set(1, 1, text+" "); len(text) != 300 || e != api.ErrLong {
				t.Errorf("%q and a blank: %d", text, int(e))
			}
			holds(t, g, s.cells(), text)
			put(t, g, s, "A1 "+text)
			holds(t, g, s.cells(), text)
		}
		g, s := sheetOf(t, other+" =A2")
		for _, text := range []string{strings.Repeat("=", 301), "=" + strings.Repeat("(", 300), "=1+" + strings.Repeat(" ", 298), "='" + strings.Repeat("a", 299), strings.Repeat("a", 302), strings.Repeat("a", 1<<20), "=" + strings.Repeat("?", 1<<20)} {
			if e := g.Set(1, 1, text); e != api.ErrLong {
				t.Errorf("%.20q of %d bytes: %d", text, len(text), int(e))
			}
		}
		holds(t, g, s.cells())
	}
}

// faults are formulas that can't be read, without their =, and why.
var faults = []struct {
	rest string
	e    api.Errno
}{
	{"", api.ErrForm}, {" ", api.ErrForm}, {"1+", api.ErrForm}, {"+1", api.ErrForm}, {"(", api.ErrForm}, {")", api.ErrForm}, {"(1", api.ErrForm}, {"1)", api.ErrForm}, {"1 2", api.ErrForm}, {"=1", api.ErrForm}, {"A1:A2", api.ErrForm}, {"(A1:A2)", api.ErrForm}, {"A0", api.ErrForm}, {"A01", api.ErrForm}, {"A1001", api.ErrForm}, {"BA1", api.ErrForm}, {"a1", api.ErrForm}, {"true", api.ErrForm}, {"A", api.ErrForm}, {"$", api.ErrForm}, {"SUM", api.ErrForm}, {"SUM()", api.ErrForm}, {"SUM(1,)", api.ErrForm}, {"IF(1)", api.ErrForm}, {"IF(1,2,3,4)", api.ErrForm}, {"FOO(1)", api.ErrForm}, {"#NO!", api.ErrForm}, {"#", api.ErrForm}, {`"`, api.ErrForm}, {`"a`, api.ErrForm}, {"1.", api.ErrForm}, {".5", api.ErrForm}, {"'x", api.ErrForm}, {"?", api.ErrForm}, {"1;2", api.ErrForm}, {"\x00", api.ErrForm}, {"\n1", api.ErrForm}, {"\xff", api.ErrForm}, {"SUM(" + strings.Repeat("1,", 20) + "1)", api.ErrForm}, {strings.Repeat("1", 41), api.ErrForm},
	{"922337203685477.5808", api.ErrLong}, {"99999999999999999999", api.ErrLong}, {"1+" + strings.Repeat("9", 40), api.ErrLong}, {strings.Repeat("(", 41) + "1" + strings.Repeat(")", 41), api.ErrLong}, {strings.Repeat("-", 41) + "1", api.ErrLong}, {strings.Repeat("ABS(", 41) + "1" + strings.Repeat(")", 41), api.ErrLong}, {strings.Repeat("(", 41) + "1", api.ErrLong},
}

// P12.1: formulas that can't be read: parse.Formula's error, and nothing is changed.
func TestFaults(t *testing.T) {
	for _, lines := range [][]string{nil, {"A1 5", "B2 x"}, {"A1 =A2+1", "A2 =A1"}} {
		g, s := sheetOf(t, lines...)
		for _, c := range faults {
			if _, _, e := parse.Formula(c.rest); e != c.e {
				t.Errorf("parse.Formula of %q: %d", c.rest, int(e))
			}
			if e := g.Set(1, 1, "="+c.rest); e != c.e {
				t.Errorf("%q: %d, not %d", c.rest, int(e), int(c.e))
			}
			holds(t, g, s.cells(), c.rest)
		}
	}
	for _, rest := range []string{strings.Repeat("(", 40) + "1" + strings.Repeat(")", 40), strings.Repeat("-", 40) + "1", strings.Repeat("ABS(", 40) + "1" + strings.Repeat(")", 40), "SUM(" + strings.Repeat("1,", 19) + "1)", strings.Repeat("1", 15), "922337203685477.5807"} {
		g, s := sheetOf(t, "A1 5", "A1 ="+rest)
		holds(t, g, s.cells(), rest)
	}
}

// P12.1: what was in a cell leaves no trace behind what is put there: all kinds behind all kinds, the empty text too.
func TestReplaced(t *testing.T) {
	kinds := []string{"", "1", "x", "'", "TRUE", "#REF!", "99999999999999999999", "=1", "=SUM(A1:B2,-C3)", "=#REF!", strings.Repeat("a", 300)}
	for _, first := range kinds {
		for _, second := range kinds {
			g, s := sheetOf(t, "B2 "+first, "B3 =B2", "B2 "+second)
			holdsAll(t, g, s.cells(), first, second)
			want := 2
			if second == "" {
				want = 1
			}
			if g.Len() != want {
				t.Errorf("%q behind %q: Len %d", second, first, g.Len())
			}
		}
	}
}

// P12.1: the empty text, into cells that are blank and those that are not.
func TestEmpty(t *testing.T) {
	g, s := sheetOf(t, "A1 1", "A2 =A1", "B1 x")
	for _, c := range []struct {
		line string
		left int
	}{{"C3 ", 3}, {"A2 ", 2}, {"A2 ", 2}, {"A1 ", 1}, {"AZ1000 ", 1}, {"B1 ", 0}, {"B1 ", 0}, {"A1 ", 0}} {
		put(t, g, s, c.line)
		holdsAll(t, g, s.cells(), c.line)
		if g.Len() != c.left {
			t.Errorf("%q: %d are left", c.line, g.Len())
		}
	}
}

// full is a sheet of 2000 cells, in rows 1 to 40 and columns 1 to 50.
func full(t *testing.T) (*Grid, sheet) {
	t.Helper()
	g, s := New(), newSheet()
	for i := range 2000 {
		row, col, text := 1+i/50, 1+i%50, []string{fmt.Sprint(i), "=A1+1", "'", "x"}[i%4]
		if e := g.Set(row, col, text); e != api.OK {
			t.Fatalf("cell %d: %d", i, int(e))
		}
		s.set(row, col, text)
	}
	return g, s
}

// P12.1: 2000 cells, and one more, into a blank cell and into one that is not.
func TestFull(t *testing.T) {
	g, s := full(t)
	holdsAll(t, g, s.cells(), "full")
	for _, place := range []api.Place{{Row: 41, Col: 1}, {Row: 1, Col: 51}, {Row: 40, Col: 52}, {Row: 1000, Col: 52}} {
		for _, text := range []string{"1", "'", " ", "=1", "=A1", strings.Repeat("a", 300)} {
			if e := g.Set(place.Row, place.Col, text); e != api.ErrFull {
				t.Errorf("%+v: %q: %d", place, text, int(e))
			}
		}
		if e := g.Set(place.Row, place.Col, ""); e != api.OK {
			t.Errorf("%+v: the empty text: %d", place, int(e))
		}
		for _, c := range faults {
			if e := g.Set(place.Row, place.Col, "="+c.rest); e != c.e {
				t.Errorf("%+v: %q: %d", place, c.rest, int(e))
			}
		}
		if e := g.Set(place.Row, place.Col, strings.Repeat("a", 301)); e != api.ErrLong {
			t.Errorf("%+v: a long text: %d", place, int(e))
		}
		if e := g.Set(place.Row, place.Col, strings.Repeat("=", 301)); e != api.ErrLong {
			t.Errorf("%+v: a long text that is no formula: %d", place, int(e))
		}
	}
	if g.Set(0, 1, "1") != api.ErrOut || g.Set(1, 53, "=") != api.ErrOut || g.Set(41, -1, "") != api.ErrOut {
		t.Error("places that are not there")
	}
	holdsAll(t, g, s.cells(), "still full")
	for _, line := range []string{"A1 =B1", "AX40 y", "B2 1", "B2 2", "A1 "} {
		put(t, g, s, line)
	}
	holds(t, g, s.cells(), "one is blank")
	put(t, g, s, "AZ1000 =A1")
	holds(t, g, s.cells(), "full again")
	if e := g.Set(1, 1, "1"); e != api.ErrFull || g.Len() != 2000 {
		t.Errorf("into the one that was made blank: %d", int(e))
	}
	put(t, g, s, "AZ1000 ")
	put(t, g, s, "A1 1")
	holds(t, g, s.cells(), "full once more")
}

// P12.2: a full sheet is full still when rows come; a row that goes makes room.
func TestFullRows(t *testing.T) {
	g, s := full(t)
	for _, d := range []deal{{true, 1}, {true, 20}, {true, 1000}, {false, 1000}, {false, 20}} {
		then, want := s.turned(d)
		if e := d.of(g); e != want || e != api.OK {
			t.Errorf("%v: %d, not %d", d, int(e), int(want))
		}
		s = then
		holds(t, g, s.cells(), d)
		if e := g.Set(999, 52, "1"); e != api.ErrFull || g.Len() != 2000 {
			t.Errorf("%v: one more: %d", d, int(e))
		}
	}
	if e := g.Delete(2); e != api.OK || g.Len() != 1950 {
		t.Errorf("%d; %d are left", int(e), g.Len())
	}
	for i := range 51 {
		want := api.OK
		if i == 50 {
			want = api.ErrFull
		}
		if e := g.Set(999, 1+i, "1"); e != want {
			t.Errorf("one more in column %d: %d", 1+i, int(e))
		}
	}
}

// P12.3: cells that were put in in any order are told row by row, in each from left to right.
func TestOrder(t *testing.T) {
	lines := []string{"A1 1", "B1 2", "Z1 3", "AA1 4", "AZ1 5", "A2 =AZ1", "B2 7", "AB2 8", "B9 9", "A10 10", "A11 11", "C99 12", "B100 13", "AZ999 =A1", "A1000 15", "AZ1000 16"}
	m := newMaker(122)
	for range 100 {
		mixed := slices.Clone(lines)
		m.Shuffle(len(mixed), func(i, j int) { mixed[i], mixed[j] = mixed[j], mixed[i] })
		g, s := sheetOf(t, mixed...)
		if got := texts(g); !slices.Equal(got, lines) {
			t.Errorf("%v: %v", mixed, got)
		}
		holds(t, g, s.cells(), mixed)
	}
}

// P12.3: a sheet and its Copy are apart, whatever is done to either; so are copies of copies.
func TestCopy(t *testing.T) {
	lines := []string{"A1 1", "B1 =A1+SUM(A1:A9,-C3)", "C9 'x", "AZ999 =B1"}
	does := []struct {
		name string
		do   func(g *Grid) api.Errno
	}{
		{"a new cell", func(g *Grid) api.Errno { return g.Set(5, 5, "=A1") }},
		{"another text", func(g *Grid) api.Errno { return g.Set(1, 1, "2") }},
		{"another formula", func(g *Grid) api.Errno { return g.Set(1, 2, "=A1+SUM(A1:A8,-C3)") }},
		{"blank", func(g *Grid) api.Errno { return g.Set(1, 2, "") }},
		{"a row comes", func(g *Grid) api.Errno { return g.Insert(2) }},
		{"a row goes", func(g *Grid) api.Errno { return g.Delete(3) }},
		{"all go", func(g *Grid) api.Errno {
			for range 999 {
				g.Delete(1)
			}
			return api.OK
		}},
	}
	for _, c := range does {
		for _, first := range []bool{true, false} {
			g, s := sheetOf(t, lines...)
			h := g.Copy()
			if first {
				g, h = h, g
			}
			k := h.Copy()
			holdsAll(t, g, s.cells(), c.name)
			holdsAll(t, h, s.cells(), c.name)
			if e := c.do(g); e != api.OK {
				t.Errorf("%s: %d", c.name, int(e))
			}
			holdsAll(t, h, s.cells(), c.name, first)
			holds(t, k, s.cells(), c.name, first)
			if got := texts(g); slices.Equal(got, lines) {
				t.Errorf("%s: nothing is changed", c.name)
			}
			// The other one goes its own way, too, to where this one is now.
			now := g.Cells()
			c.do(h)
			holds(t, g, now, c.name, first)
			holds(t, h, now, c.name, first)
			holds(t, k, s.cells(), c.name, first)
		}
	}
	g, h := New(), New().Copy()
	put(t, h, newSheet(), "A1 1")
	holds(t, g, nil, "a copy of an empty sheet")
	g, s := full(t)
	h = g.Copy()
	if e := h.Set(50, 1, "1"); e != api.ErrFull {
		t.Errorf("a copy of a full sheet: %d", int(e))
	}
	g.Set(1, 1, "")
	holds(t, h, s.cells(), "a copy of a full sheet")
}

// listsOf are all lists of a tree that have any room.
func listsOf(e api.Exp) [][]api.Exp {
	var all [][]api.Exp
	if cap(e.L) > 0 {
		all = append(all, e.L)
	}
	for _, part := range e.L {
		all = append(all, listsOf(part)...)
	}
	return all
}

// Memory: lists that were answered are shared with nothing: not with the sheet, nor with its copy, nor with one another; their spare room neither.
func TestMemory(t *testing.T) {
	lines := []string{"A1 =SUM(A2:B3,-(A4+1),IF(A5,A6,-A7))", "B1 1", "B2 =-(1+2)*3", "C3 =1", "D4 =SUM(A2:B3,-(A4+1),IF(A5,A6,-A7))", "E5 x"}
	g, s := sheetOf(t, lines...)
	h := g.Copy()
	var lists [][]api.Exp
	var cells [][]api.Cell
	for range 3 {
		for _, k := range []*Grid{g, h, g.Copy()} {
			list := k.Cells()
			cells = append(cells, list)
			for _, cell := range list {
				lists = append(lists, listsOf(cell.X)...)
				one, _ := k.Cell(cell.Row, cell.Col)
				lists = append(lists, listsOf(one.X)...)
			}
		}
	}
	if len(lists) < 200 {
		t.Fatalf("%d lists", len(lists))
	}
	for i, list := range lists {
		list = list[:cap(list)]
		for j := range list {
			list[j] = api.Exp{K: 9, E: i}
		}
	}
	for i, list := range cells {
		list = list[:cap(list)]
		for j := range list {
			list[j] = api.Cell{Row: -i, Text: "gone"}
		}
	}
	for i, list := range lists {
		if slices.ContainsFunc(list[:cap(list)], func(e api.Exp) bool { return e.E != i }) {
			t.Fatal("two lists of trees share memory")
		}
	}
	for i, list := range cells {
		if slices.ContainsFunc(list[:cap(list)], func(cell api.Cell) bool { return cell.Row != -i }) {
			t.Fatal("two lists of cells share memory")
		}
	}
	holdsAll(t, g, s.cells(), "the sheet")
	holdsAll(t, h, s.cells(), "its copy")
	for _, d := range []deal{{true, 3}, {false, 2}, {true, 1}} {
		s, _ = s.turned(d)
		for _, k := range []*Grid{g, h} {
			if e := d.of(k); e != api.OK {
				t.Errorf("%v: %d", d, int(e))
			}
			holds(t, k, s.cells(), d)
			// What a sheet tells behind a change is new memory, too.
			for _, cell := range k.Cells() {
				for _, list := range listsOf(cell.X) {
					clear(list[:cap(list)])
				}
			}
			holds(t, k, s.cells(), d)
		}
	}
}

// Ends: calls of the zero value end, whatever they answer.
func TestZero(t *testing.T) {
	for i := range 8 {
		var g Grid
		calls := []func(){func() { g.Set(1, 1, "=A1") }, func() { g.Set(1, 1, "") }, func() { g.Insert(1) }, func() { g.Delete(1) }, func() { g.Cell(1, 1) }, func() { g.Cells() }, func() { g.Len() }, func() { g.Copy().Set(1, 1, "1") }}
		calls[i]()
		for _, call := range calls {
			call()
		}
	}
}
