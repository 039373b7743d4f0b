package move

import (
	"fmt"
	"slices"
	"strings"
	"testing"

	"cadastre/api"
	"cadastre/parse"
	"cadastre/print"
)

// moves holds Insert and Delete of a formula against the texts that should come.
func moves(t *testing.T, s string, at int, inserted, deleted string) {
	t.Helper()
	e := tree(t, s)
	for _, d := range deals(at) {
		want := inserted
		if !d.comes {
			want = deleted
		}
		if got, err := print.Formula(d.tree(e)); got != want || err != api.OK {
			t.Errorf("%+v of %s: %q, %d, not %s", d, s, got, int(err), want)
		}
	}
	check(t, e, at)
	checkPlaces(t, e, at)
}

// The chapter's example.
func TestExample(t *testing.T) {
	moves(t, "SUM(A1:A5)+A3", 3, "SUM(A1:A6)+A4", "SUM(A1:A4)+#REF!")
}

// P11.1: by hand: rows below at, at it, above it; the first and the last; those that the sheet has not; any at.
func TestRowsByHand(t *testing.T) {
	for _, c := range []struct{ row, at, inserted, deleted int }{
		{5, 7, 5, 5}, {5, 6, 5, 5}, {5, 5, 6, 0}, {5, 4, 6, 4}, {5, 1, 6, 4}, {5, 1000, 5, 5},
		{1, 1, 2, 0}, {1, 2, 1, 1}, {1, 1000, 1, 1}, {2, 1, 3, 1}, {2, 2, 3, 0}, {2, 3, 2, 2},
		{1000, 1000, 0, 0}, {1000, 999, 0, 999}, {1000, 1, 0, 999}, {999, 1000, 999, 999}, {999, 999, 1000, 0}, {999, 998, 1000, 998}, {999, 1, 1000, 998},
		{1000, 1001, 1000, 1000}, {1, 1001, 1, 1}, {999, 1001, 999, 999}, {1000, most, 1000, 1000}, {1, most, 1, 1}, {7, most, 7, 7}, {7, 1 << 32, 7, 7}, {7, 1<<32 + 5, 7, 7},
		{1, 0, 2, 0}, {2, 0, 3, 1}, {1000, 0, 0, 999}, {999, 0, 1000, 998}, {1, -1, 2, 0}, {7, -1, 8, 6}, {1, least, 2, 0}, {7, least, 8, 6}, {1000, least, 0, 999}, {7, -1 << 32, 8, 6}, {7, 9 - 1<<32, 8, 6},
		{0, 5, 0, 0}, {0, 0, 0, 0}, {0, 1, 0, 0}, {0, -1, 0, 0}, {0, least, 0, 0}, {0, most, 0, 0}, {-1, 5, 0, 0}, {-1, -1, 0, 0}, {-1, -2, 0, 0}, {-1, 0, 0, 0}, {1001, 5, 0, 0}, {1001, 1001, 0, 0}, {1001, 1002, 0, 0}, {1001, 1000, 0, 0}, {1002, 1, 0, 0}, {most, 5, 0, 0}, {most, most, 0, 0}, {most, least, 0, 0}, {most - 1, most, 0, 0}, {least, 5, 0, 0}, {least, least, 0, 0}, {least, most, 0, 0}, {least + 1, least, 0, 0}, {5 + 1<<32, 5, 0, 0}, {5 + 1<<32, most, 0, 0},
	} {
		if got := Inserted(c.row, c.at); got != c.inserted {
			t.Errorf("Inserted(%d, %d): %d, not %d", c.row, c.at, got, c.inserted)
		}
		if got := Deleted(c.row, c.at); got != c.deleted {
			t.Errorf("Deleted(%d, %d): %d, not %d", c.row, c.at, got, c.deleted)
		}
	}
}

// ends are ints that are often wrong.
var ends = []int{least, least + 1, -1 << 32, -1<<32 + 7, -1 << 31, -1001, -1000, -2, -1, 0, 1, 2, 3, 255, 256, 257, 499, 500, 501, 998, 999, 1000, 1001, 1002, 1003, 1<<16 + 7, 1 << 31, 1 << 32, 1<<32 + 7, 1 << 62, most - 1, most}

// P11.1: all rows at all rows, and the ends with one another.
func TestAllRows(t *testing.T) {
	hold := func(row int, d deal) {
		if got, want := d.row(row), rowThen(row, d); got != want {
			t.Errorf("%+v of row %d: %d, not %d", d, row, got, want)
		}
	}
	for at := -3; at <= api.MaxRows+3; at++ {
		for _, d := range deals(at) {
			for row := -3; row <= api.MaxRows+3; row++ {
				hold(row, d)
			}
		}
	}
	for _, at := range ends {
		for _, d := range deals(at) {
			for _, row := range ends {
				hold(row, d)
			}
		}
	}
}

// P11.2: references by hand, absolute or not.
func TestReferencesByHand(t *testing.T) {
	for _, c := range []struct {
		s                 string
		at                int
		inserted, deleted string
	}{
		{"B5", 4, "B6", "B4"}, {"B5", 5, "B6", "#REF!"}, {"B5", 6, "B5", "B5"}, {"$B5", 4, "$B6", "$B4"}, {"B$5", 4, "B$6", "B$4"}, {"$B$5", 4, "$B$6", "$B$4"}, {"$B5", 5, "$B6", "#REF!"}, {"B$5", 5, "B$6", "#REF!"}, {"$B$5", 5, "$B$6", "#REF!"}, {"$B$5", 6, "$B$5", "$B$5"}, {"B$5", 6, "B$5", "B$5"},
		{"A1", 1, "A2", "#REF!"}, {"A1", 2, "A1", "A1"}, {"AZ2", 1, "AZ3", "AZ1"}, {"A1000", 1000, "#REF!", "#REF!"}, {"A1000", 999, "#REF!", "A999"}, {"A1000", 1, "#REF!", "A999"}, {"$A$1000", 1, "#REF!", "$A$999"}, {"A999", 1000, "A999", "A999"}, {"A999", 999, "A1000", "#REF!"}, {"AZ999", 1, "AZ1000", "AZ998"}, {"A9", 9, "A10", "#REF!"}, {"A10", 3, "A11", "A9"},
		{"A1000", 1001, "A1000", "A1000"}, {"A1000", most, "A1000", "A1000"}, {"A1", most, "A1", "A1"}, {"A1", 0, "A2", "#REF!"}, {"A1", -7, "A2", "#REF!"}, {"A1", least, "A2", "#REF!"}, {"A2", 0, "A3", "A1"}, {"A2", least, "A3", "A1"}, {"A1000", 0, "#REF!", "A999"}, {"$A$1", least, "$A$2", "#REF!"},
		{"-A3", 3, "-A4", "-#REF!"}, {"A3+A2*A4", 3, "A4+A2*A5", "#REF!+A2*A3"}, {"A3=A3", 3, "A4=A4", "#REF!=#REF!"}, {"IF(A2,$A3,A$4)", 3, "IF(A2,$A4,A$5)", "IF(A2,#REF!,A$3)"}, {`"A3"&3&1.5&TRUE&#NUM!&A3`, 3, `"A3"&3&1.5&TRUE&#NUM!&A4`, `"A3"&3&1.5&TRUE&#NUM!&#REF!`}, {"3", 3, "3", "3"}, {"#REF!", 3, "#REF!", "#REF!"}, {`"A3"`, 3, `"A3"`, `"A3"`}, {"FALSE", 1, "FALSE", "FALSE"}, {"-(A1-(A5-A9))", 5, "-(A1-(A6-A10))", "-(A1-(#REF!-A8))"},
	} {
		moves(t, c.s, c.at, c.inserted, c.deleted)
	}
}

// P11.2: ranges by hand: ends in either order, rows that are the same, on which sides of at they lie, at it, and in the last row.
func TestRangesByHand(t *testing.T) {
	for _, c := range []struct {
		area              string
		at                int
		inserted, deleted string
	}{
		{"A3:A5", 1, "A4:A6", "A2:A4"}, {"A3:A5", 2, "A4:A6", "A2:A4"}, {"A3:A5", 3, "A4:A6", "A3:A4"}, {"A3:A5", 4, "A3:A6", "A3:A4"}, {"A3:A5", 5, "A3:A6", "A3:A4"}, {"A3:A5", 6, "A3:A5", "A3:A5"}, {"A3:A5", 7, "A3:A5", "A3:A5"},
		{"A5:A3", 1, "A6:A4", "A4:A2"}, {"A5:A3", 2, "A6:A4", "A4:A2"}, {"A5:A3", 3, "A6:A4", "A4:A3"}, {"A5:A3", 4, "A6:A3", "A4:A3"}, {"A5:A3", 5, "A6:A3", "A4:A3"}, {"A5:A3", 6, "A5:A3", "A5:A3"},
		{"A3:A4", 3, "A4:A5", "A3:A3"}, {"A3:A4", 4, "A3:A5", "A3:A3"}, {"A4:A3", 3, "A5:A4", "A3:A3"}, {"A4:A3", 4, "A5:A3", "A3:A3"},
		{"A3:A3", 2, "A4:A4", "A2:A2"}, {"A3:A3", 3, "A4:A4", "#REF!"}, {"A3:A3", 4, "A3:A3", "A3:A3"}, {"B3:D3", 3, "B4:D4", "#REF!"}, {"D3:B3", 3, "D4:B4", "#REF!"}, {"D3:B3", 2, "D4:B4", "D2:B2"}, {"$B$3:$D$3", 3, "$B$4:$D$4", "#REF!"},
		{"B5:D3", 4, "B6:D3", "B4:D3"}, {"D3:B5", 4, "D3:B6", "D3:B4"}, {"$B3:D$5", 4, "$B3:D$6", "$B3:D$4"}, {"B$5:$D3", 3, "B$6:$D4", "B$4:$D3"}, {"$A$3:$A$5", 2, "$A$4:$A$6", "$A$2:$A$4"}, {"A$3:A5", 3, "A$4:A6", "A$3:A4"}, {"AZ3:A5", 5, "AZ3:A6", "AZ3:A4"},
		{"A1:A5", 1, "A2:A6", "A1:A4"}, {"A1:A1", 1, "A2:A2", "#REF!"}, {"A1:A2", 1, "A2:A3", "A1:A1"}, {"A1:A2", 2, "A1:A3", "A1:A1"}, {"A2:A1", 1, "A3:A2", "A1:A1"}, {"A1:A1000", 1, "A2:A1000", "A1:A999"}, {"A1000:A1", 1, "A1000:A2", "A999:A1"}, {"A1:A1000", 1000, "A1:A1000", "A1:A999"}, {"A1:A1000", 500, "A1:A1000", "A1:A999"},
		{"A999:A1000", 1000, "A999:A1000", "A999:A999"}, {"A1000:A999", 1000, "A1000:A999", "A999:A999"}, {"A999:A1000", 999, "A1000:A1000", "A999:A999"}, {"A999:A1000", 998, "A1000:A1000", "A998:A999"}, {"$A1000:A$999", 1, "$A1000:A$1000", "$A999:A$998"}, {"A1000:B1000", 1000, "#REF!", "#REF!"}, {"A1000:B1000", 999, "#REF!", "A999:B999"}, {"$A$1000:$B$1000", 1, "#REF!", "$A$999:$B$999"}, {"B1000:A1000", 1001, "B1000:A1000", "B1000:A1000"}, {"A998:A999", 999, "A998:A1000", "A998:A998"}, {"A999:A999", 999, "A1000:A1000", "#REF!"},
		{"A3:A5", 1000, "A3:A5", "A3:A5"}, {"A3:A1000", 1001, "A3:A1000", "A3:A1000"}, {"A3:A1000", most, "A3:A1000", "A3:A1000"}, {"A3:A5", 0, "A4:A6", "A2:A4"}, {"A5:A3", -1, "A6:A4", "A4:A2"}, {"A3:A5", least, "A4:A6", "A2:A4"}, {"A2:A1000", 0, "A3:A1000", "A1:A999"}, {"A1000:A2", least, "A1000:A3", "A999:A1"}, {"A1000:A1000", 0, "#REF!", "A999:A999"}, {"A1000:A1000", least, "#REF!", "A999:A999"},
	} {
		for _, whole := range []string{"SUM(%s)", "1+COUNT(2,-MAX(%s,#REF!))", "IF(INDEX(%s,1),SUM(%[1]s,%[1]s),-MIN(1,%[1]s))"} {
			moves(t, fmt.Sprintf(whole, c.area), c.at, fmt.Sprintf(whole, c.inserted), fmt.Sprintf(whole, c.deleted))
		}
	}
}

// P11.2: Delete below row 1 of a range that begins in row 1: what the rule says of it is 1 less, though 0 is no row (so that P11.5 can't hold of it); a reference is the error.
func TestBelowTheSheet(t *testing.T) {
	for _, at1 := range []int{0, -1, -1000, least} {
		got := Delete(tree(t, "SUM($A1:B$5,B5:A1,A1:C1,A1,A2:A3)"), at1)
		want := aCall("SUM", aRange(api.Ref{Row: 0, Col: 1, AbsCol: true}, api.Ref{Row: 4, Col: 2, AbsRow: true}), aRange(at(4, 2), at(0, 1)), aRange(at(0, 1), at(0, 3)), gone, aRange(at(1, 1), at(2, 1)))
		if !alike(got, want) {
			t.Errorf("Delete at %d: %+v", at1, got)
		}
	}
}

// ways are a reference in the four ways in which it is absolute or not.
func ways(row, col int) []api.Ref {
	return []api.Ref{{Row: row, Col: col}, {Row: row, Col: col, AbsRow: true}, {Row: row, Col: col, AbsCol: true}, {Row: row, Col: col, AbsRow: true, AbsCol: true}}
}

// P11.2: each row, in each way, at rows about it and at the ends.
func TestAllReferences(t *testing.T) {
	for row := 1; row <= api.MaxRows; row++ {
		for i, r := range ways(row, 1+row%api.MaxCols) {
			for _, at := range append([]int{row - 2, row - 1, row, row + 1, row + 2}, ends...) {
				check(t, aRef(r), at)
				if i == row%4 {
					check(t, aNeg(aBin("*", aRef(r), aCall("SUM", aRef(r), one))), at)
				}
			}
		}
	}
}

// P11.2, P11.4, P11.5: ranges with each row of some about at, and the edges, as one end, and as the other.
func TestAllRanges(t *testing.T) {
	for at1 := -2; at1 <= api.MaxRows+2; at1++ {
		var rows []int
		for _, row := range []int{1, 2, 3, 500, 998, 999, 1000, at1 - 2, at1 - 1, at1, at1 + 1, at1 + 2} {
			if 1 <= row && row <= api.MaxRows {
				rows = append(rows, row)
			}
		}
		for _, row := range rows {
			for _, row2 := range rows {
				a, b := ways(row, 3)[(at1+row+2)%4], ways(row2, 1+row%5)[(row+row2)%4]
				check(t, aCall("SUM", aRange(a, b)), at1)
			}
		}
	}
	for _, at1 := range ends {
		for _, row := range ends {
			for _, row2 := range ends {
				check(t, aCall("SUM", aRange(at(row, 3), at(row2, 4))), at1)
				check(t, aCall("SUM", aRange(at(row, 4), at(row2, 3)), aRef(at(2, 2))), at1)
			}
		}
	}
}

// P11.2: of ranges, the ways in which each end is absolute or not stay, and so do columns.
func TestSides(t *testing.T) {
	for _, rows := range [][2]int{{3, 5}, {5, 3}, {4, 4}, {1, 1000}, {1000, 1}, {1000, 1000}, {999, 1000}} {
		for _, cols := range [][2]int{{1, 52}, {52, 1}, {7, 7}} {
			for _, a := range ways(rows[0], cols[0]) {
				for _, b := range ways(rows[1], cols[1]) {
					for _, at := range []int{least, 0, 1, 2, 3, 4, 5, 6, 999, 1000, 1001, most} {
						e := aCall("MAX", aRange(a, b), aRef(a))
						check(t, e, at)
						for _, d := range deals(at) {
							l := flat(d.tree(e))[1]
							a1, b1 := a, b
							a1.Row, b1.Row = l.r.Row, l.r2.Row
							if l.k == api.XRange && (l.r != a1 || l.r2 != b1) {
								t.Errorf("%+v of %+v: %+v", d, e, l)
							}
						}
					}
				}
			}
		}
	}
}

// P11.2: of trees that are not well made, and of those that they are a part of, comes the zero tree.
func TestRefused(t *testing.T) {
	range1 := aRange(at(5, 5), at(6, 6))
	for _, e := range []api.Exp{
		{K: -1}, {K: 9}, {K: most}, {K: least}, aNum(-1), aText(strings.Repeat("a", 301)), aBool(2), anError(0), anError(6), {K: api.XRef}, aRef(at(0, 5)), aRef(at(5, 0)), aRef(at(1001, 5)), aRef(at(5, 53)), aRef(at(-1, 5)), aRef(at(least, 5)), aRef(at(most, 5)), aRef(api.Ref{Row: 1001, Col: 5, AbsRow: true}), {K: api.XRange}, aRange(at(0, 5), at(5, 5)), aRange(at(5, 5), at(5, 53)), aRange(at(1001, 5), at(5, 5)), aRange(at(5, 5), at(1001, 5)),
		aNeg(), aNeg(one, one), aNeg(range1), aBin("+", aRef(at(5, 5))), aBin("+", one, one, one), aBin("+", range1, one), aBin("?", one, one), aBin(":", aRef(at(5, 5)), aRef(at(6, 6))), aCall("SUM"), aCall("SUM", times(21, aRef(at(5, 5)))...), aCall("FOO", aRef(at(5, 5))), aCall("NOT", one, one), aCall("IF", one), aCall("SUM", aNeg(range1)),
	} {
		for _, whole := range []api.Exp{e, aNeg(e), aBin("*", aRef(at(5, 5)), e), aBin("*", e, aRef(at(5, 5))), aCall("SUM", e), aCall("SUM", range1, aNeg(e))} {
			if parse.Well(whole) {
				t.Fatalf("%+v is well made", whole)
			}
			for _, at := range []int{least, -1, 0, 1, 4, 5, 6, 1000, 1001, most} {
				for _, d := range deals(at) {
					if got := d.tree(whole); !alike(got, api.Exp{}) {
						t.Errorf("%+v of %+v: %+v", d, whole, got)
					}
				}
			}
		}
	}
	// A range is one as an argument alone.
	for _, whole := range []api.Exp{range1, aNeg(range1), aBin("+", one, range1)} {
		for _, d := range deals(1) {
			if got := d.tree(whole); !alike(got, api.Exp{}) {
				t.Errorf("%+v of a range where none may be: %+v", d, got)
			}
		}
	}
	if got := Insert(aCall("SUM", range1), 1); !alike(got, aCall("SUM", aRange(at(6, 5), at(7, 6)))) {
		t.Errorf("Insert of a range: %+v", got)
	}
}

// P11.2: whatever is no row of a reference stays as it is: other fields, and what lies in lists of trees without parts.
func TestOtherFields(t *testing.T) {
	inner := []api.Exp{aRef(at(3, 4)), aNeg(aRef(at(3, 4)), aRange(at(3, 4), at(5, 5))), {K: 9, R: at(3, 4), L: []api.Exp{aRef(at(9, 9))}}}
	full := func(k int) api.Exp {
		return api.Exp{K: k, N: 1, S: "A3", E: 2, R: at(5, 4), R2: at(7, 4), L: inner}
	}
	for _, k := range []int{api.XNum, api.XText, api.XBool, api.XErr} {
		for _, whole := range []api.Exp{full(k), aNeg(full(k)), aBin("+", full(k), full(k)), aCall("SUM", full(k))} {
			whole.R, whole.R2, whole.N = at(5, 5), at(6, 6), 1
			for _, at := range []int{least, 1, 3, 5, 6, 1000, most} {
				for _, d := range deals(at) {
					if got := d.tree(whole); !alike(got, whole) {
						t.Errorf("%+v of %+v: %+v", d, whole, got)
					}
				}
			}
		}
	}
	ref, range1 := full(api.XRef), full(api.XRange)
	refUp, rangeUp, refDown, rangeDown := ref, range1, ref, range1
	refUp.R.Row, rangeUp.R.Row, rangeUp.R2.Row = 6, 6, 8
	refDown.R.Row, rangeDown.R.Row, rangeDown.R2.Row = 4, 4, 6
	whole := aCall("SUM", ref, range1)
	if got := Insert(whole, 3); !alike(got, aCall("SUM", refUp, rangeUp)) {
		t.Errorf("Insert of %+v: %+v", whole, got)
	}
	if got := Delete(whole, 3); !alike(got, aCall("SUM", refDown, rangeDown)) {
		t.Errorf("Delete of %+v: %+v", whole, got)
	}
	// Of what is gone nothing is left but the error.
	range1.R2.Row = 5
	if got := Delete(aCall("SUM", ref, range1), 5); !alike(got, aCall("SUM", gone, gone)) {
		t.Errorf("Delete of all rows: %+v", got)
	}
	ref.R.Row, range1.R.Row, range1.R2.Row = 1000, 1000, 1000
	if got := Insert(aCall("SUM", ref, range1), 5); !alike(got, aCall("SUM", gone, gone)) {
		t.Errorf("Insert that pushes all rows out: %+v", got)
	}
}

// P11.3: by hand: which places are named behind, a row that comes within a range among them, and one that comes at its edge not.
func TestPlacesByHand(t *testing.T) {
	for _, c := range []struct {
		s        string
		d        deal
		from, to int // of column 1
	}{
		{"SUM(A3:A5)", deal{true, 2}, 4, 6}, {"SUM(A3:A5)", deal{true, 3}, 4, 6}, {"SUM(A3:A5)", deal{true, 4}, 3, 6}, {"SUM(A3:A5)", deal{true, 5}, 3, 6}, {"SUM(A3:A5)", deal{true, 6}, 3, 5}, {"SUM(A5:A3)", deal{true, 4}, 3, 6}, {"SUM(A3:A1000)", deal{true, 1000}, 3, 1000}, {"SUM(A3:A1000)", deal{true, 3}, 4, 1000}, {"SUM(A1000:A1000)", deal{true, 1000}, 1, 0}, {"SUM(A3,A4,A5)", deal{true, 3}, 4, 6}, {"A1000", deal{true, 1000}, 1, 0}, {"A1000", deal{true, 1001}, 1000, 1000},
		{"SUM(A3:A5)", deal{false, 2}, 2, 4}, {"SUM(A3:A5)", deal{false, 3}, 3, 4}, {"SUM(A3:A5)", deal{false, 4}, 3, 4}, {"SUM(A3:A5)", deal{false, 5}, 3, 4}, {"SUM(A3:A5)", deal{false, 6}, 3, 5}, {"SUM(A5:A3)", deal{false, 3}, 3, 4}, {"SUM(A3:A3)", deal{false, 3}, 1, 0}, {"A3+A4+A5", deal{false, 4}, 3, 4}, {"A3", deal{false, 3}, 1, 0}, {"A1", deal{false, 0}, 1, 0}, {"SUM(A1:A1000)", deal{false, 1000}, 1, 999},
	} {
		e := tree(t, c.s)
		want := &rowsOf{}
		for row := c.from; row <= c.to; row++ {
			want[1][row] = true
		}
		if got := c.d.tree(e); *named(got) != *want || *namedThen(e, c.d) != *want {
			t.Errorf("%+v of %s: %+v names other places than rows %d to %d", c.d, c.s, got, c.from, c.to)
		}
	}
}

// P11.3: formulas made by chance.
func TestPlaces(t *testing.T) {
	m := newMaker(31)
	for range 2500 {
		e := m.tree(1 + m.Intn(4))
		if m.Intn(2) == 0 {
			e = aCall("SUM", aRange(m.ref(), m.ref()))
		}
		checkPlaces(t, m.odd(e), m.at())
	}
}

// P11.4: by hand, at each row; and what a formula that names the last row comes to.
func TestThereAndBack(t *testing.T) {
	e := tree(t, "SUM(A1:B999,$C$1:C1,D999:D999,E500:E2,1)-A1*$A$999&MAX(F3:F3,A500,-Z7)")
	for at := 1; at <= api.MaxRows; at++ {
		if there := Insert(e, at); !alike(Delete(there, at), e) || alike(there, e) != (at == api.MaxRows) {
			t.Errorf("there and back at %d: %+v", at, there)
		}
	}
	for s, want := range map[string]string{"A1000": "#REF!", "SUM(A1000:A1000)": "SUM(#REF!)", "SUM(A1:A1000)": "SUM(A1:A999)"} {
		if got, _ := print.Formula(Delete(Insert(tree(t, s), 7), 7)); got != want {
			t.Errorf("there and back of %s: %s, not %s", s, got, want)
		}
	}
}

// P11.2 to P11.5: trees made by chance: well made, with anything in other fields, and of any kinds.
func TestMadeTrees(t *testing.T) {
	m := newMaker(32)
	well, there := 0, 0
	for range 15000 {
		e := m.tree(1 + m.Intn(5))
		for _, e := range []api.Exp{e, m.odd(e), m.any(1 + m.Intn(4))} {
			check(t, e, m.at())
			if parse.Well(e) {
				well++
				if !namesLast(e) {
					there++
				}
			}
		}
	}
	if well < 30000 || there < 10000 {
		t.Errorf("%d well made, %d of which name nothing in the last row", well, there)
	}
}

// P11.2: formulas made by chance, against their texts, rewritten word by word.
func TestTexts(t *testing.T) {
	m := newMaker(33)
	whole, lost, same := 0, 0, 0
	for range 20000 {
		e := m.tree(1 + m.Intn(4))
		s, err := print.Formula(e)
		if err != api.OK {
			t.Fatalf("%+v is not well made", e)
		}
		for _, d := range deals(m.at()) {
			text := textThen(s, d)
			want, _, err := parse.Formula(text)
			if len(s) > api.MaxText || err != api.OK {
				continue
			}
			whole++
			if got := d.tree(e); !alike(got, want) {
				t.Errorf("%+v of %s: %+v, not %s", d, s, got, text)
			}
			if strings.Count(text, "#REF!") > strings.Count(s, "#REF!") {
				lost++
			} else if alike(want, e) {
				same++
			}
		}
	}
	if whole < 30000 || lost < 2000 || same < 4000 || whole-lost-same < 4000 {
		t.Errorf("%d formulas, of which %d lost places, %d stayed", whole, lost, same)
	}
}

// wraps put a tree into another one, one deeper.
var wraps = []func(e api.Exp) api.Exp{
	func(e api.Exp) api.Exp { return aNeg(e) },
	func(e api.Exp) api.Exp { return aBin("-", e, aRef(at(5, 1))) },
	func(e api.Exp) api.Exp { return aBin("-", aRef(at(5, 1)), e) },
	func(e api.Exp) api.Exp { return aCall("IF", aRange(at(7, 7), at(5, 5)), e, aRef(at(5, 1))) },
	func(e api.Exp) api.Exp { return aCall("FOO", e) },
	func(e api.Exp) api.Exp { return api.Exp{K: api.XRef, R: at(5, 1), L: []api.Exp{e}} },
}

// P11.2, P11.5: trees of 65536 in one another, and calls of all their arguments.
func TestGreat(t *testing.T) {
	for i, wrap := range wraps {
		e := aCall("SUM", aRange(at(5, 2), at(4, 2)), aRef(at(5, 2)))
		for range 1<<16 - 2 {
			e = wrap(e)
		}
		for _, d := range []deal{{true, 5}, {false, 5}} {
			got := d.tree(e)
			if !slices.Equal(flat(got), then(e, d)) || parse.Well(e) && !parse.Well(got) {
				t.Errorf("%d: %+v of a deep tree", i, d)
			}
		}
	}
	wide := aCall("SUM", times(20, aCall("MAX", times(20, aCall("MIN", times(20, aRange(at(5, 5), at(9, 9)))...))...))...)
	for _, at := range []int{4, 5, 1000} {
		check(t, wide, at)
	}
}

// lists are all lists of a tree that have any room.
func lists(e api.Exp) [][]api.Exp {
	var all [][]api.Exp
	if cap(e.L) > 0 {
		all = append(all, e.L)
	}
	for _, part := range e.L {
		all = append(all, lists(part)...)
	}
	return all
}

// mark writes a number over all of a list, its spare room too.
func mark(list []api.Exp, n int) {
	list = list[:cap(list)]
	for i := range list {
		list[i].E = n
	}
}

// isMarked tells whether that number stands all over it.
func isMarked(list []api.Exp, n int) bool {
	return !slices.ContainsFunc(list[:cap(list)], func(e api.Exp) bool { return e.E != n })
}

// roomy is a tree whose lists are parts of one another, some in spare room, well made or not.
func roomy(m maker, well bool) api.Exp {
	shared := make([]api.Exp, 0, 9)
	for range 9 {
		shared = append(shared, m.odd(m.tree(3)))
	}
	parts := []api.Exp{aCall("SUM", shared[:3]...), aCall("MAX", shared[:3:3]...), aCall("MIN", shared[1:5:7]...), aNeg(shared[2:3]...), {K: api.XNum, L: shared[:4]}, {K: api.XRef, R: at(50, 20), L: shared[3:6]}, {K: api.XRange, R: at(50, 20), R2: at(40, 20), L: shared[2:6]}, {K: api.XText, L: shared[:0]}}
	if !well {
		parts = append(parts, api.Exp{K: 9, L: shared}, aNeg(shared...))
	}
	return aCall("SUM", parts...)
}

// Memory: what is handed in is not changed, and answers share no memory with it, nor with one another, nor within themselves.
func TestMemory(t *testing.T) {
	m := newMaker(34)
	for i := range 400 {
		e := roomy(m, i%2 == 0)
		given := lists(e)
		var before [][]api.Exp
		for _, list := range given {
			before = append(before, slices.Clone(list[:cap(list)]))
		}
		var made [][]api.Exp
		for _, at := range []int{least, 1, 40, 45, 50, 1000, 1001, 1001} {
			made = append(append(made, lists(Insert(e, at))...), lists(Delete(e, at))...)
		}
		for j, list := range given {
			if !slices.EqualFunc(list[:cap(list)], before[j], alike) {
				t.Fatal("what was handed in is changed")
			}
		}
		if i%2 == 0 && len(made) < 4*len(given) || i%2 == 1 && len(made) > 0 {
			t.Fatalf("%d lists of %d", len(made), len(given))
		}
		for _, list := range given {
			mark(list, -1)
		}
		for j, list := range made {
			mark(list, j)
		}
		for _, list := range given {
			if !isMarked(list, -1) {
				t.Fatal("an answer shares memory with what was handed in")
			}
		}
		for j, list := range made {
			if !isMarked(list, j) {
				t.Fatal("two lists of answers share memory")
			}
		}
	}
}

// Memory: nil and empty lists are alike.
func TestEmptyLists(t *testing.T) {
	for _, k := range []int{api.XNum, api.XText, api.XRef, api.XNeg, api.XBin, api.XCall, 9} {
		with, without := api.Exp{K: k, S: "SUM", R: at(5, 1), L: []api.Exp{}}, api.Exp{K: k, S: "SUM", R: at(5, 1)}
		for _, at := range []int{4, 5, 6} {
			for _, d := range deals(at) {
				if !alike(d.tree(with), d.tree(without)) {
					t.Errorf("%+v of an empty list of kind %d", d, k)
				}
			}
		}
	}
}

// Answers hang on arguments alone: each call answers the same again, whatever came between.
func TestAgain(t *testing.T) {
	m := newMaker(35)
	told := func(e api.Exp) string {
		return fmt.Sprint(flat(Insert(e, 2)), flat(Delete(e, 2)), flat(Insert(e, 500)), flat(Delete(e, 999)))
	}
	var trees []api.Exp
	var first []string
	for range 300 {
		e := m.odd(m.tree(3))
		trees, first = append(trees, e), append(first, told(e))
	}
	for i := len(trees) - 1; i >= 0; i-- {
		if told(trees[i]) != first[i] {
			t.Errorf("another answer of %+v", trees[i])
		}
	}
}
