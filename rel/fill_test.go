package rel

import (
	"math/rand"
	"strings"
	"testing"

	"cadastre/api"
	"cadastre/parse"
	"cadastre/print"
)

// fills holds Fill of a formula against the text that it should be filled to.
func fills(t *testing.T, s string, rows, cols int, want string) {
	t.Helper()
	e := tree(t, s)
	got, err := print.Formula(Fill(e, rows, cols))
	if got != want || err != api.OK {
		t.Errorf("Fill of %s by %d, %d: %q, %d, not %s", s, rows, cols, got, int(err), want)
	}
	check(t, e, rows, cols)
}

// P10.2: each way in which a reference is absolute or not, and a range's two ends, by hand.
func TestFillByHand(t *testing.T) {
	for _, c := range []struct {
		s          string
		rows, cols int
		want       string
	}{
		{"B2", 3, 4, "F5"}, {"B$2", 3, 4, "F$2"}, {"$B2", 3, 4, "$B5"}, {"$B$2", 3, 4, "$B$2"}, {"B2", 0, 4, "F2"}, {"B2", 3, 0, "B5"}, {"F5", -3, -4, "B2"}, {"F5", -3, 4, "J2"}, {"Z1", 0, 1, "AA1"}, {"AA1", 0, -1, "Z1"},
		{"SUM(B2:C3)", 1, 1, "SUM(C3:D4)"}, {"SUM(B$2:C3)", 1, 1, "SUM(C$2:D4)"}, {"SUM(B2:C$3)", 1, 1, "SUM(C3:D$3)"}, {"SUM($B2:C3)", 1, 1, "SUM($B3:D4)"}, {"SUM(B2:$C3)", 1, 1, "SUM(C3:$C4)"}, {"SUM($B$2:C3)", 1, 1, "SUM($B$2:D4)"}, {"SUM(B2:$C$3)", 1, 1, "SUM(C3:$C$3)"}, {"SUM($B$2:$C$3)", 1, 1, "SUM($B$2:$C$3)"}, {"SUM(C3:B2)", 1, 1, "SUM(D4:C3)"}, {"SUM(C$3:B2)", 4, 0, "SUM(C$3:B6)"},
		{"-A1*(B2+SUM(C3,D4:E5,IF(F6,G$7,$H8)))", 1, 1, "-B2*(C3+SUM(D4,E5:F6,IF(G7,H$7,$H9)))"}, {`"A1"&1.5&TRUE&#NUM!&A1`, 2, 2, `"A1"&1.5&TRUE&#NUM!&C3`}, {"1", 5, 5, "1"}, {"#REF!", 5, 5, "#REF!"}, {`"A1"`, -5, -5, `"A1"`},
	} {
		fills(t, c.s, c.rows, c.cols, c.want)
		fills(t, c.s, 0, 0, c.s)
	}
}

// P10.2: references and ranges that leave the sheet over each edge, and that just do not.
func TestEdges(t *testing.T) {
	for _, c := range []struct {
		s          string
		rows, cols int
		want       string
	}{
		{"C3", -2, 0, "C1"}, {"C3", -3, 0, "#REF!"}, {"C3", -4, 0, "#REF!"}, {"C3", 997, 0, "C1000"}, {"C3", 998, 0, "#REF!"}, {"C3", 0, -2, "A3"}, {"C3", 0, -3, "#REF!"}, {"C3", 0, 49, "AZ3"}, {"C3", 0, 50, "#REF!"}, {"C3", -3, 50, "#REF!"}, {"C3", -2, 49, "AZ1"}, {"C3", 1000, -1000, "#REF!"},
		{"A1", -1, 0, "#REF!"}, {"A1", 0, -1, "#REF!"}, {"AZ1000", 1, 0, "#REF!"}, {"AZ1000", 0, 1, "#REF!"}, {"A1", 999, 51, "AZ1000"}, {"AZ1000", -999, -51, "A1"}, {"A1", 1000, 0, "#REF!"}, {"A1", 0, 52, "#REF!"},
		{"C$3", -3, 0, "C$3"}, {"C$3", 998, 0, "C$3"}, {"C$3", 0, -3, "#REF!"}, {"C$3", 0, 50, "#REF!"}, {"$C3", 0, -3, "$C3"}, {"$C3", 0, 50, "$C3"}, {"$C3", -3, 0, "#REF!"}, {"$C3", 998, 0, "#REF!"}, {"$C$3", -3, -3, "$C$3"}, {"$C$3", least, most, "$C$3"},
		{"SUM(C3:D5)", -3, 0, "SUM(#REF!)"}, {"SUM(D5:C3)", -3, 0, "SUM(#REF!)"}, {"SUM(C3:D5)", -5, 0, "SUM(#REF!)"}, {"SUM(C3:D5)", 996, 0, "SUM(#REF!)"}, {"SUM(D5:C3)", 996, 0, "SUM(#REF!)"}, {"SUM(C3:D5)", 995, 0, "SUM(C998:D1000)"}, {"SUM(C3:D5)", -2, 0, "SUM(C1:D3)"}, {"SUM(C3:D5)", 0, -3, "SUM(#REF!)"}, {"SUM(D3:C5)", 0, -3, "SUM(#REF!)"}, {"SUM(C3:D5)", 0, 49, "SUM(#REF!)"}, {"SUM(D3:C5)", 0, 49, "SUM(#REF!)"}, {"SUM(C3:D5)", 0, 48, "SUM(AY3:AZ5)"}, {"SUM(C3:D5)", 0, -2, "SUM(A3:B5)"},
		{"SUM(C$3:D5)", -3, 0, "SUM(C$3:D2)"}, {"SUM(C$3:D5)", -5, 0, "SUM(#REF!)"}, {"SUM(C3:D$5)", -3, 0, "SUM(#REF!)"}, {"SUM($C3:D5)", 0, -3, "SUM($C3:A5)"}, {"SUM($C3:D5)", 0, -4, "SUM(#REF!)"}, {"SUM(C3:$D5)", 0, 49, "SUM(AZ3:$D5)"}, {"SUM(C3:$D5)", 0, 50, "SUM(#REF!)"}, {"SUM($C$3:$D$5)", -99, 99, "SUM($C$3:$D$5)"}, {"SUM(C3:$D$5)", 0, -3, "SUM(#REF!)"}, {"SUM($C$3:D5)", 1000, 0, "SUM(#REF!)"},
		{"A1+A2+SUM(A1:A3,A3)", -1, 0, "#REF!+A1+SUM(#REF!,A2)"}, {"-A1", -1, 0, "-#REF!"}, {"A1=A1", 0, -1, "#REF!=#REF!"}, {"IF(A1,SUM(A2:A1),A2)", -1, 0, "IF(#REF!,SUM(#REF!),A1)"},
	} {
		fills(t, c.s, c.rows, c.cols, c.want)
	}
}

// P10.2: so far that sums go around, or that few bits of them would be on the sheet.
func TestFarFills(t *testing.T) {
	for _, by := range []int{least, least + 1, most, most - 1, most - 1000, 1 << 8, -1 << 8, 1 << 16, -1 << 16, 1 << 31, -1 << 31, 1 << 32, -1 << 32, 1<<32 + 1, 1 << 62} {
		down, downAlone := "#REF!", "#REF!"
		if by == 1<<8 { // so many rows there are, but not so many columns
			down, downAlone = "B259", "$B259"
		}
		fills(t, "B3", by, 0, down)
		fills(t, "B3", 0, by, "#REF!")
		fills(t, "$B3", by, by, downAlone)
		fills(t, "B$3", by, by, "#REF!")
		fills(t, "$B$3", by, by, "$B$3")
		fills(t, "SUM(B3:$C$4)", by, by, "SUM(#REF!)")
		fills(t, "SUM($C$4:B3)", by, by, "SUM(#REF!)")
	}
}

// P10.2: each row and column, filled as far as each edge, and one farther.
func TestAllEdges(t *testing.T) {
	for row := 1; row <= api.MaxRows; row++ {
		for _, r := range ways(row, 7) {
			for _, rows := range []int{-row, 1 - row, api.MaxRows - row, api.MaxRows + 1 - row} {
				check(t, aRef(r), rows, 0)
				check(t, aCall("SUM", aRange(r, at(500, 7)), aRange(api.Ref{Row: 500, Col: 7, AbsRow: true}, r)), rows, 0)
			}
		}
	}
	for col := 1; col <= api.MaxCols; col++ {
		for _, r := range ways(7, col) {
			for cols := -api.MaxCols - 1; cols <= api.MaxCols+1; cols++ {
				check(t, aRef(r), 0, cols)
				check(t, aCall("SUM", aRange(r, at(7, 26)), aRange(api.Ref{Row: 7, Col: 26, AbsCol: true}, r)), 0, cols)
			}
		}
	}
}

// P10.2: of trees that are not well made, and of those that they are a part of, comes the zero tree, by however much they are filled.
func TestFillRefused(t *testing.T) {
	range1 := aRange(at(5, 5), at(6, 6))
	for _, e := range []api.Exp{
		{K: -1}, {K: 9}, {K: most}, {K: least}, aNum(-1), aText(strings.Repeat("a", 301)), aBool(2), anError(0), anError(6), {K: api.XRef}, aRef(at(0, 5)), aRef(at(5, 0)), aRef(at(1001, 5)), aRef(at(5, 53)), aRef(at(-1, 5)), aRef(api.Ref{Row: 1001, Col: 5, AbsRow: true}), {K: api.XRange}, aRange(at(0, 5), at(5, 5)), aRange(at(5, 5), at(5, 53)),
		aNeg(), aNeg(one, one), aNeg(range1), aBin("+", aRef(at(5, 5))), aBin("+", one, one, one), aBin("+", range1, one), aBin("?", one, one), aBin(":", aRef(at(5, 5)), aRef(at(6, 6))), aCall("SUM"), aCall("SUM", times(21, aRef(at(5, 5)))...), aCall("FOO", aRef(at(5, 5))), aCall("NOT", one, one), aCall("IF", one), aCall("SUM", aNeg(range1)),
	} {
		for _, whole := range []api.Exp{e, aNeg(e), aBin("*", aRef(at(5, 5)), e), aBin("*", e, aRef(at(5, 5))), aCall("SUM", e), aCall("SUM", range1, aNeg(e))} {
			for _, by := range []api.Place{{}, {Row: 1, Col: 1}, {Row: -1, Col: -1}, {Row: 1}, {Col: -1}, {Row: 2000}, {Row: least, Col: most}} {
				if got := Fill(whole, by.Row, by.Col); !alike(got, api.Exp{}) {
					t.Errorf("Fill of %+v by %v: %+v", whole, by, got)
				}
			}
		}
	}
	// A range is filled as an argument alone.
	for _, whole := range []api.Exp{range1, aNeg(range1), aBin("+", one, range1)} {
		if got := Fill(whole, 1, 1); !alike(got, api.Exp{}) {
			t.Errorf("Fill of a range where none may be: %+v", got)
		}
	}
	if got := Fill(aCall("SUM", range1), 1, 1); !alike(got, aCall("SUM", aRange(at(6, 6), at(7, 7)))) {
		t.Errorf("Fill of a range: %+v", got)
	}
}

// P10.2, P10.5, P10.6: formulas made by chance, against their texts, filled word by word.
func TestFillTexts(t *testing.T) {
	m := maker{rand.New(rand.NewSource(14))}
	whole, left := 0, 0
	for range 20000 {
		e := m.tree(1 + m.Intn(4))
		s, err := print.Formula(e)
		if err != api.OK {
			t.Fatalf("%+v is not well made", e)
		}
		rows, cols := m.Intn(9)-4, m.Intn(9)-4
		if m.Intn(4) == 0 {
			rows, cols = m.Intn(2400)-1200, m.Intn(120)-60
		}
		text := filledText(s, rows, cols)
		want, _, err := parse.Formula(text)
		if len(s) > api.MaxText || err != api.OK {
			continue
		}
		whole++
		got := Fill(e, rows, cols)
		if !alike(got, want) || !parse.Well(got) {
			t.Errorf("Fill of %s by %d, %d: %+v, not %s", s, rows, cols, got, text)
		}
		if strings.Count(text, "#REF!") > strings.Count(s, "#REF!") {
			left++
		} else if row, col := m.number(), m.number(); !Alike(e, row, col, got, row+rows, col+cols) {
			t.Errorf("%s at %d, %d is not alike to itself, filled by %d, %d", s, row, col, rows, cols)
		}
	}
	if whole < 15000 || left < 3000 || whole-left < 3000 {
		t.Errorf("%d formulas, %d of which left the sheet", whole, left)
	}
}

// P10.5: filled twice is filled once, as far as both, if nothing left the sheet between; filled back is what it was.
func TestFillTwice(t *testing.T) {
	m := maker{rand.New(rand.NewSource(15))}
	stayed := 0
	for range 5000 {
		e := m.odd(m.tree(1 + m.Intn(4)))
		rows, cols, rows2, cols2 := m.Intn(7)-3, m.Intn(7)-3, m.Intn(7)-3, m.Intn(7)-3
		if _, left := filled(e, rows, cols); left {
			continue
		}
		stayed++
		there := Fill(e, rows, cols)
		if !alike(Fill(there, rows2, cols2), Fill(e, rows+rows2, cols+cols2)) {
			t.Errorf("Fill of %+v by %d, %d and by %d, %d", e, rows, cols, rows2, cols2)
		}
		if !alike(Fill(there, -rows, -cols), e) {
			t.Errorf("Fill of %+v by %d, %d and back", e, rows, cols)
		}
	}
	if stayed < 1500 {
		t.Errorf("only %d stayed on the sheet", stayed)
	}
}
