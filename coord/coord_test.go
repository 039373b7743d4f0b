package coord

import (
	"maps"
	"strings"
	"testing"

	"cadastre/api"
)

// The sheet: its rows and columns, the edges of both, and ints far off.
func TestIn(t *testing.T) {
	for _, row := range someRows() {
		for _, col := range someCols() {
			if In(row, col) != sheetHas(row, col) {
				t.Errorf("In of %d, %d: %v", row, col, In(row, col))
			}
		}
	}
	in := 0
	for row := -5; row <= 1100; row++ {
		for col := -5; col <= 110; col++ {
			if In(row, col) {
				in++
			}
		}
	}
	if in != 52000 {
		t.Error("places of the sheet:", in)
	}
}

// P6.1: the names of all columns, and none of others; P6.4: ColNumber of ColName is the column.
func TestColumns(t *testing.T) {
	for col, name := range names() {
		if ColName(col) != name || ColNumber(name) != col || ColNumber(ColName(col)) != col {
			t.Errorf("column %d, %q: %q, %d", col, name, ColName(col), ColNumber(name))
		}
	}
	for _, col := range someCols() {
		if name := ColName(col); (name != "") != (1 <= col && col <= 52) {
			t.Errorf("ColName of %d: %q", col, name)
		}
	}
	for col := -2000; col <= 2000; col++ {
		if name := ColName(col); (name != "") != (1 <= col && col <= 52) {
			t.Errorf("ColName of %d: %q", col, name)
		}
	}
}

// P6.1: by hand, the chapter's example among them.
func TestColumnsByHand(t *testing.T) {
	for col, name := range map[int]string{1: "A", 2: "B", 25: "Y", 26: "Z", 27: "AA", 28: "AB", 51: "AY", 52: "AZ"} {
		if ColName(col) != name || ColNumber(name) != col {
			t.Errorf("column %d, %q: %q, %d", col, name, ColName(col), ColNumber(name))
		}
	}
	for _, s := range []string{
		"", "a", "z", "aa", "aA", "Aa", "BA", "BB", "BZ", "ZA", "ZZ", "AAA", "AAZ", "ABC", "ZZZ", "$", "$A", "A$", "A1", "1", "0", "-A", "+A", " ", " A", "A ", "A\x00", "@", "[", "`", "{", "@A", "A@", "A[", "Ä", "А", "\xff",
		strings.Repeat("A", 14), strings.Repeat("A", 1<<16), strings.Repeat("Z", 1<<16),
	} {
		if ColNumber(s) != 0 {
			t.Errorf("ColNumber of %.40q: %d", s, ColNumber(s))
		}
	}
}

// P6.1: of all texts of two bytes, and of many longer ones, just 52 are names.
func TestColNumberOfOthers(t *testing.T) {
	known := map[string]int{}
	for col, name := range names() {
		known[name] = col
	}
	same := func(s string) {
		if ColNumber(s) != known[s] {
			t.Errorf("ColNumber of %q: %d, not %d", s, ColNumber(s), known[s])
		}
	}
	for b := range 256 {
		same(string([]byte{byte(b)}))
		for c := range 256 {
			same(string([]byte{byte(b), byte(c)}))
		}
	}
	texts("@ABYZ[a$", 6, same)
	for _, bits := range []uint{8, 16, 31, 32, 63, 64, 65, 128} {
		for col := range int64(54) {
			same(lettersOf(bits, col))
		}
	}
}

// P6.2 and P6.4: each of the sheet's references, there and back.
func TestReferences(t *testing.T) {
	all := references()
	if len(all) != 4*52000 {
		t.Fatal("references:", len(all))
	}
	for s, r := range all {
		if answer := got(Parse(s)); answer != (read{r, true}) {
			t.Errorf("Parse of %q: %v", s, answer)
		}
		if Print(r) != s {
			t.Errorf("Print of %+v: %q, not %q", r, Print(r), s)
		}
	}
}

// P6.2: what is no reference's text, whatever it is made of.
func TestParseOthers(t *testing.T) {
	all := references()
	same := func(s string) {
		r, ok := all[s]
		if answer := got(Parse(s)); answer != (read{r, ok}) {
			t.Errorf("Parse of %q: %v", s, answer)
		}
		if r, ok := Parse(s); ok && Print(r) != s {
			t.Errorf("Print of Parse of %q: %q", s, Print(r))
		}
	}
	texts("$ABZa019 -.", 5, same)
	texts("$A01", 8, same)
	for _, s := range []string{"A1", "$B12", "AZ$1000", "$AA$90"} {
		for b := range 256 {
			letter := string([]byte{byte(b)})
			for i := range len(s) + 1 {
				same(s[:i] + letter + s[i:])
				if i < len(s) {
					same(s[:i] + letter + s[i+1:])
				}
			}
		}
	}
	for _, row := range []string{"999", "1000", "1001", "1002", "9999", "10000", "10001"} {
		for _, col := range []string{"A", "Z", "AA", "AZ", "BA", "ZZ", "AAA"} {
			same(col + row)
			same("$" + col + "$" + row)
		}
	}
}

// P6.2: by hand, the chapter's example among them.
func TestParseByHand(t *testing.T) {
	for s, want := range map[string]api.Ref{
		"$B12": {Row: 12, Col: 2, AbsCol: true}, "A1": {Row: 1, Col: 1}, "A$1": {Row: 1, Col: 1, AbsRow: true}, "$A$1": {Row: 1, Col: 1, AbsRow: true, AbsCol: true},
		"Z1000": {Row: 1000, Col: 26}, "AA10": {Row: 10, Col: 27}, "$AZ$1000": {Row: 1000, Col: 52, AbsRow: true, AbsCol: true},
	} {
		if answer := got(Parse(s)); answer != (read{want, true}) || Print(want) != s {
			t.Errorf("Parse of %q: %v; Print: %q", s, answer, Print(want))
		}
	}
	for _, s := range []string{
		"", "$", "$$", "A", "$A", "A$", "$A$", "AZ", "1", "$1", "12", "$$1", "A0", "A00", "A01", "A$01", "A1001", "A9999", "A-1", "A+1", "A1.0", "A1.", "A.1", "A1.5", "A0.99999", "A1e2", "A1_0",
		"a1", "aA1", "Aa1", "$b12", "BA1", "ZZ1", "AAA1", "$BA$1", "$$A1", "$$A$1", "A$$1", "A1$", "$A1$", "$A$1$", "A1$2", "A1A", "A1A1", "1A", "1A1", "A$A1", "A1:B2", "A1,", "-A1", "+A1", "=A1", "#REF!",
		" A1", "A1 ", "A 1", "$ A1", "A$ 1", "A\t1", "A1\n", "A1\x00", "\x00A1", "Ä1", "А1", "A١", "A１", "\xff1", "A\xff",
		"A11111111111111111111", "A18446744073709551617", "A4294967297", "A922337203685477", "A922337203685478", "A" + strings.Repeat("1", 40), "A" + strings.Repeat("1", 41), "A" + strings.Repeat("0", 39) + "1", "A" + strings.Repeat("0", 40) + "1",
		"A" + strings.Repeat("1", 1<<16), "A" + strings.Repeat("0", 1<<16) + "1", strings.Repeat("A", 1<<16) + "1", strings.Repeat("$", 1<<16),
	} {
		if answer := got(Parse(s)); answer != (read{}) {
			t.Errorf("Parse of %.40q: %v", s, answer)
		}
	}
}

// P6.2: Print of places at the edges, and off the sheet.
func TestPrintAtEdges(t *testing.T) {
	for _, row := range someRows() {
		for _, col := range someCols() {
			for _, abs := range []api.Ref{{}, {AbsRow: true}, {AbsCol: true}, {AbsRow: true, AbsCol: true}} {
				r := api.Ref{Row: row, Col: col, AbsRow: abs.AbsRow, AbsCol: abs.AbsCol}
				s := Print(r)
				if (s != "") != sheetHas(row, col) {
					t.Errorf("Print of %+v: %q", r, s)
				}
				want := read{}
				if s != "" {
					want = read{r, true}
				}
				if answer := got(Parse(s)); answer != want {
					t.Errorf("Parse of Print of %+v: %v", r, answer)
				}
			}
		}
	}
}

// P6.3: Rect of places in any order, absolute or not, on the sheet or off it.
func TestRect(t *testing.T) {
	for _, r := range rects(someRows(), []int{least, -1, 0, 1, 2, 27, 52, 53, greatest}) {
		a, b := api.Ref{Row: r.Row, Col: r.Col, AbsRow: true}, api.Ref{Row: r.Row2, Col: r.Col2, AbsCol: true}
		want := api.Rect{}
		if sheetHas(a.Row, a.Col) && sheetHas(b.Row, b.Col) {
			want = r
			if want.Row > want.Row2 {
				want.Row, want.Row2 = want.Row2, want.Row
			}
			if want.Col > want.Col2 {
				want.Col, want.Col2 = want.Col2, want.Col
			}
		}
		if Rect(a, b) != want {
			t.Errorf("Rect of %+v, %+v: %+v, not %+v", a, b, Rect(a, b), want)
		}
	}
}

// P6.3: by hand: corners in each order, one place, a place off the sheet.
func TestRectByHand(t *testing.T) {
	at := func(row, col int) api.Ref { return api.Ref{Row: row, Col: col} }
	box := api.Rect{Row: 2, Col: 1, Row2: 5, Col2: 3}
	for _, c := range []struct {
		a, b api.Ref
		want api.Rect
		area int
	}{
		{at(2, 1), at(5, 3), box, 12}, {at(5, 3), at(2, 1), box, 12}, {at(2, 3), at(5, 1), box, 12}, {at(5, 1), at(2, 3), box, 12},
		{at(7, 7), at(7, 7), api.Rect{Row: 7, Col: 7, Row2: 7, Col2: 7}, 1},
		{at(1000, 52), at(1, 1), api.Rect{Row: 1, Col: 1, Row2: 1000, Col2: 52}, 52000},
		{at(0, 1), at(5, 3), api.Rect{}, 0}, {at(5, 3), at(0, 1), api.Rect{}, 0}, {at(1, 0), at(5, 3), api.Rect{}, 0}, {at(5, 3), at(1, 53), api.Rect{}, 0},
		{at(1001, 1), at(5, 3), api.Rect{}, 0}, {at(5, 3), at(-1, 1), api.Rect{}, 0}, {at(0, 0), at(0, 0), api.Rect{}, 0}, {at(least, least), at(greatest, greatest), api.Rect{}, 0},
	} {
		if r := Rect(c.a, c.b); r != c.want || Area(r) != c.area {
			t.Errorf("Rect of %+v, %+v: %+v, area %d", c.a, c.b, r, Area(r))
		}
	}
}

// P6.3: Area and Has of rectangles at the edges, turned about, and off the sheet, place by place.
func TestAreaAndHas(t *testing.T) {
	rows, cols := []int{-1, 0, 1, 2, 4, 999, 1000, 1001}, []int{-1, 0, 1, 3, 52, 53}
	for _, r := range rects(rows, cols) {
		places := between(r)
		if Area(r) != len(places) {
			t.Errorf("Area of %+v: %d, not %d", r, Area(r), len(places))
		}
		for _, row := range someRows() {
			for _, col := range someCols() {
				_, want := places[api.Place{Row: row, Col: col}]
				if Has(r, row, col) != want {
					t.Errorf("Has of %+v, %d, %d: %v", r, row, col, Has(r, row, col))
				}
			}
		}
	}
}

// P6.3: rectangles of ints far off have no place.
func TestAreaFarOff(t *testing.T) {
	on := api.Rect{Row: 1, Col: 1, Row2: 1000, Col2: 52}
	far := []int{least, least + 1, -1, 0, greatest - 1, greatest}
	for _, r := range rects(append(far, 1, 1000), append(far, 1, 52)) {
		want := 0
		if (r.Row == 1 || r.Row == 1000) && (r.Row2 == r.Row || r.Row2 == 1000) && (r.Col == 1 || r.Col == 52) && (r.Col2 == r.Col || r.Col2 == 52) {
			want = (r.Row2 - r.Row + 1) * (r.Col2 - r.Col + 1)
		}
		if Area(r) != want || want == 0 && (Has(r, 1, 1) || Has(r, r.Row, r.Col) || Has(r, 500, 26)) {
			t.Errorf("%+v: area %d, not %d", r, Area(r), want)
		}
		q, ok := Meet(r, on)
		p, also := Meet(on, r)
		if ok != (want > 0) || also != ok || p != q || ok && q != r || !ok && q != (api.Rect{}) {
			t.Errorf("Meet of %+v and the sheet: %+v, %v; %+v, %v", r, q, ok, p, also)
		}
	}
}

// P6.3 and P6.5: Meet of every two of many rectangles, place by place.
func TestMeet(t *testing.T) {
	all := rects([]int{0, 1, 2, 5, 7, 8}, []int{0, 1, 3, 4, 6})
	all = append(all, rects([]int{998, 1000, 1001}, []int{50, 52, 53})...)
	for _, a := range all {
		for _, b := range all {
			meetRight(t, a, b)
		}
	}
}

// meetRight holds Meet of two rectangles against the places of each about their corners, and its area against theirs.
func meetRight(t *testing.T, a, b api.Rect) {
	t.Helper()
	r, ok := Meet(a, b)
	if ok != (Area(r) > 0) || !ok && r != (api.Rect{}) {
		t.Errorf("Meet of %+v, %+v: %+v, %v", a, b, r, ok)
	}
	if Area(r) > min(Area(a), Area(b)) {
		t.Errorf("Meet of %+v, %+v: area %d", a, b, Area(r))
	}
	// A rectangle's places are all of its rows with all of its columns: no row or column but these can differ from its neighbours.
	for _, row := range []int{0, 1, 2, 3, 5, 6, 7, 8, 9, 998, 999, 1000, 1001} {
		for _, col := range []int{0, 1, 2, 3, 4, 5, 6, 7, 50, 51, 52, 53} {
			if Has(r, row, col) != (Has(a, row, col) && Has(b, row, col)) {
				t.Errorf("Meet of %+v, %+v: %+v, at %d, %d", a, b, r, row, col)
				return
			}
		}
	}
}

// P6.3 and P6.5: Meet of rectangles, against the sets of their places.
func TestMeetAgainstSets(t *testing.T) {
	all := rects([]int{1, 3, 4}, []int{51, 52, 53})
	for _, a := range all {
		for _, b := range all {
			want, other := between(a), between(b)
			maps.DeleteFunc(want, func(p api.Place, _ int) bool { return other[p] == 0 })
			r, ok := Meet(a, b)
			if !maps.Equal(between(r), want) || ok != (len(want) > 0) || Area(r) != len(want) {
				t.Errorf("Meet of %+v, %+v: %+v, %v", a, b, r, ok)
			}
		}
	}
}

// P6.3: by hand: in one place, in a row, in a column, not at all, one within the other, itself, the zero rectangle.
func TestMeetByHand(t *testing.T) {
	box := func(row, col, row2, col2 int) api.Rect {
		return api.Rect{Row: row, Col: col, Row2: row2, Col2: col2}
	}
	a := box(2, 2, 5, 6)
	for _, c := range []struct{ b, want api.Rect }{
		{box(5, 6, 9, 9), box(5, 6, 5, 6)}, {box(1, 1, 2, 2), box(2, 2, 2, 2)}, {box(5, 1, 9, 2), box(5, 2, 5, 2)},
		{box(5, 1, 9, 9), box(5, 2, 5, 6)}, {box(1, 6, 9, 9), box(2, 6, 5, 6)}, {box(4, 4, 9, 9), box(4, 4, 5, 6)},
		{box(3, 3, 4, 4), box(3, 3, 4, 4)}, {box(1, 1, 9, 9), a}, {a, a}, {box(3, 1, 4, 9), box(3, 2, 4, 6)},
		{box(6, 2, 9, 6), api.Rect{}}, {box(1, 2, 1, 6), api.Rect{}}, {box(2, 7, 5, 9), api.Rect{}}, {box(2, 1, 5, 1), api.Rect{}}, {box(6, 7, 9, 9), api.Rect{}},
		{box(5, 6, 2, 2), api.Rect{}}, {box(5, 2, 2, 6), api.Rect{}}, {box(2, 6, 5, 2), api.Rect{}},
		{box(0, 1, 9, 9), api.Rect{}}, {box(1, 0, 9, 9), api.Rect{}}, {box(1, 1, 1001, 9), api.Rect{}}, {box(1, 1, 9, 53), api.Rect{}}, {box(least, least, greatest, greatest), api.Rect{}}, {api.Rect{}, api.Rect{}},
	} {
		for _, pair := range [][2]api.Rect{{a, c.b}, {c.b, a}} {
			if r, ok := Meet(pair[0], pair[1]); r != c.want || ok != (c.want != api.Rect{}) {
				t.Errorf("Meet of %+v, %+v: %+v, %v, not %+v", pair[0], pair[1], r, ok, c.want)
			}
		}
	}
	zero := api.Rect{}
	if r, ok := Meet(zero, zero); ok || r != zero || Area(zero) != 0 || Has(zero, 0, 0) {
		t.Errorf("the zero rectangle: %+v, %v, area %d, %v", r, ok, Area(zero), Has(zero, 0, 0))
	}
}
