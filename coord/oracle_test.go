package coord

import (
	"fmt"
	"math"
	"math/big"
	"strconv"

	"cadastre/api"
)

// What the chapter's words come to when all of the sheet's places are written out, reckoned apart from the package.

const (
	least    = math.MinInt
	greatest = math.MaxInt
)

// names: all columns' names, in their order; none is column 0.
func names() []string {
	const alphabet = "ABCDEFGHIJKLMNOPQRSTUVWXYZ"
	l := []string{""}
	for _, ahead := range []string{"", "A"} {
		for _, letter := range alphabet {
			l = append(l, ahead+string(letter))
		}
	}
	return l
}

// lettersOf: the letters that would be the name of column 2^bits and col: whole numbers that wrap round take it for col.
func lettersOf(bits uint, col int64) string {
	n := new(big.Int).Lsh(big.NewInt(1), bits)
	n.Add(n, big.NewInt(col))
	name := ""
	for n.Sign() > 0 {
		digit := new(big.Int)
		n.DivMod(n.Sub(n, big.NewInt(1)), big.NewInt(26), digit)
		name = string(rune('A'+digit.Int64())) + name
	}
	return name
}

// references: every reference that there is, by its text.
func references() map[string]api.Ref {
	all := map[string]api.Ref{}
	for col, name := range names() {
		for row := 1; row <= 1000 && col > 0; row++ {
			digits := strconv.Itoa(row)
			all[name+digits] = api.Ref{Row: row, Col: col}
			all["$"+name+digits] = api.Ref{Row: row, Col: col, AbsCol: true}
			all[name+"$"+digits] = api.Ref{Row: row, Col: col, AbsRow: true}
			all["$"+name+"$"+digits] = api.Ref{Row: row, Col: col, AbsRow: true, AbsCol: true}
		}
	}
	return all
}

// someRows and someCols: the sheet's edges, what lies about them, and ints at which reckoning may wrap round.
func someRows() []int {
	return []int{least, least + 1, -1000, -1, 0, 1, 2, 3, 500, 999, 1000, 1001, 1002, 1 << 32, 1<<32 + 1, greatest - 1, greatest}
}

func someCols() []int {
	return []int{least, least + 1, -52, -1, 0, 1, 2, 25, 26, 27, 28, 51, 52, 53, 54, 78, 702, 703, 1 << 32, 1<<32 + 1, greatest - 1, greatest}
}

// sheetHas: whether a place is on the sheet, by looking at each of its rows and columns.
func sheetHas(row, col int) bool {
	isRow, isCol := false, false
	for n := 1; n <= 1000; n++ {
		isRow = isRow || n == row
		isCol = isCol || n == col && n <= 52
	}
	return isRow && isCol
}

// rects: all rectangles whose rows and columns are of these, turned about ones too.
func rects(rows, cols []int) []api.Rect {
	var l []api.Rect
	for _, row := range rows {
		for _, row2 := range rows {
			for _, col := range cols {
				for _, col2 := range cols {
					l = append(l, api.Rect{Row: row, Col: col, Row2: row2, Col2: col2})
				}
			}
		}
	}
	return l
}

// between: the places from a rectangle's first to its last, none if one of its corners is off the sheet.
func between(r api.Rect) map[api.Place]int {
	places := map[api.Place]int{}
	for _, corner := range []api.Place{{Row: r.Row, Col: r.Col}, {Row: r.Row2, Col: r.Col2}} {
		if !sheetHas(corner.Row, corner.Col) {
			return places
		}
	}
	for row := r.Row; row <= r.Row2; row++ {
		for col := r.Col; col <= r.Col2; col++ {
			places[api.Place{Row: row, Col: col}]++
		}
	}
	return places
}

// texts shows all texts of at most so many of these bytes.
func texts(bytes string, most int, see func(s string)) {
	var grow func(s string)
	grow = func(s string) {
		see(s)
		if len(s) == most {
			return
		}
		for i := range len(bytes) {
			grow(s + bytes[i:i+1])
		}
	}
	grow("")
}

type read struct {
	r  api.Ref
	ok bool
}

func got(r api.Ref, ok bool) read { return read{r, ok} }

func (a read) String() string { return fmt.Sprintf("%+v, %v", a.r, a.ok) }
