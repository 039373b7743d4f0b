package region

import (
	"fmt"
	"math"
	"slices"
	"testing"

	"cadastre/api"
	"cadastre/grid"
	"cadastre/rel"
)

// The chapter's example: B1 to B5 as =A1*2 to =A5*2.
func TestExample(t *testing.T) {
	g := grid.New()
	for i := 1; i <= 5; i++ {
		put(t, g, i, 2, fmt.Sprintf("=A%d*2", i))
	}
	if l := Find(g.Cells()); !slices.Equal(l, []api.Run{{Col: 2, From: 1, To: 5}}) {
		t.Errorf("Find: %v", l)
	}
}

// P20.1: no cells, and cells that are no formulas, have no runs.
func TestFindNothing(t *testing.T) {
	if l := Find(nil); len(l) != 0 {
		t.Errorf("of none: %v", l)
	}
	if l := Find([]api.Cell{}); len(l) != 0 {
		t.Errorf("of an empty list: %v", l)
	}
	g := grid.New()
	for row := 1; row <= 9; row++ {
		for col, text := range []string{"5", "x", "'=A1", "TRUE", "#REF!", "A1"} {
			put(t, g, row, col+1, text)
		}
	}
	if l := Find(g.Cells()); len(l) != 0 {
		t.Errorf("of no formulas: %v", l)
	}
}

// P20.1: as many as MinRun are a run, one less is none.
func TestFindLengths(t *testing.T) {
	for _, col := range []int{1, 2, 26, 27, 51, 52} {
		for _, rows := range []int{1, 2, 3, 4, 5, 6, 40} {
			for _, top := range []int{1, 2, 500, 1000 - rows, 1001 - rows} {
				g := grid.New()
				down(t, g, top, col, rows, "=$C$1+1")
				var want []api.Run
				if rows >= 4 {
					want = []api.Run{{Col: col, From: top, To: top + rows - 1}}
				}
				if l := holdFind(t, g); !slices.Equal(l, want) {
					t.Errorf("%d rows from %d, %d on: %v", rows, top, col, l)
				}
			}
		}
	}
}

// P20.1: whole columns, and as many cells as a sheet has, are runs like others.
func TestFindWhole(t *testing.T) {
	for _, cols := range [][]int{{1}, {52}, {1, 2}, {26, 52}} {
		g := grid.New()
		var want []api.Run
		for _, col := range cols {
			down(t, g, 1, col, 1000, "=A1*2")
			want = append(want, api.Run{Col: col, From: 1, To: 1000})
		}
		if l := holdFind(t, g); !slices.Equal(l, want) {
			t.Errorf("whole columns %v: %v", cols, l)
		}
	}
	g := grid.New()
	var want []api.Run
	for col := 1; col <= 52; col++ {
		for top := 1; top <= 25; top += 6 {
			down(t, g, top, col, 4, "=A1*2")
			want = append(want, api.Run{Col: col, From: top, To: top + 3})
		}
	}
	if l := holdFind(t, g); !slices.Equal(l, want) {
		t.Errorf("five in each column: %v", l)
	}
}

// P20.1: a run ends at an empty cell, at a cell that is no formula, at a formula that is not Alike to the one above; another may begin there.
func TestFindParted(t *testing.T) {
	for _, try := range []struct {
		between string
		want    []api.Run
	}{
		{"", []api.Run{run(2, 1, 5), run(2, 7, 10)}},
		{"7", []api.Run{run(2, 1, 5), run(2, 7, 10)}},
		{"x", []api.Run{run(2, 1, 5), run(2, 7, 10)}},
		{"'=A6*2", []api.Run{run(2, 1, 5), run(2, 7, 10)}},
		{"=A6*3", []api.Run{run(2, 1, 5), run(2, 7, 10)}},
		{"=A5*2", []api.Run{run(2, 1, 5), run(2, 7, 10)}},
		{"=A$6*2", []api.Run{run(2, 1, 5), run(2, 7, 10)}},
		{"=2*A6", []api.Run{run(2, 1, 5), run(2, 7, 10)}},
		{"=A6*2", []api.Run{run(2, 1, 10)}},
		{"= (A6) * 2.0", []api.Run{run(2, 1, 10)}},
	} {
		g := grid.New()
		down(t, g, 1, 2, 10, "=A1*2")
		put(t, g, 6, 2, try.between)
		if l := holdFind(t, g); !slices.Equal(l, try.want) {
			t.Errorf("with %q between: %v", try.between, l)
		}
	}
	// Each row is where the second one begins: 4 below it are enough, 3 are not; the same above.
	for cut := 1; cut <= 10; cut++ {
		g := grid.New()
		down(t, g, 1, 2, cut, "=A1*2")
		down(t, g, 1+cut, 2, 10-cut+1, "=A1*2")
		var want []api.Run
		if cut >= 4 {
			want = append(want, run(2, 1, cut))
		}
		if 10-cut+1 >= 4 {
			want = append(want, run(2, cut+1, 11))
		}
		if l := holdFind(t, g); !slices.Equal(l, want) {
			t.Errorf("cut behind %d: %v", cut, l)
		}
	}
}

// P20.1: formulas on each other's heels that are alike by pairs alone are none.
func TestFindPairs(t *testing.T) {
	g := grid.New()
	for i, text := range []string{"=A1", "=A2", "=A4", "=A5", "=A7", "=A8"} {
		put(t, g, i+1, 2, text)
	}
	if l := holdFind(t, g); len(l) != 0 {
		t.Errorf("pairs: %v", l)
	}
	// Every second row alike to the one two above, not to the one above.
	g = grid.New()
	for row := 1; row <= 12; row++ {
		put(t, g, row, 2, fmt.Sprintf("=A%d+%d", row, row%2))
	}
	if l := holdFind(t, g); len(l) != 0 {
		t.Errorf("every second one: %v", l)
	}
}

// P20.1: runs side by side are apart, and told by columns, in each by rows, though cells lie row by row.
func TestFindOrder(t *testing.T) {
	g := grid.New()
	for _, col := range []int{52, 3, 2, 27} {
		for _, top := range []int{20, 996, 1, 6} {
			down(t, g, top, col, 5, "=$A$1+1")
			put(t, g, top+4, col, "5")
		}
	}
	put(t, g, 1, 4, "=$A$1+1")
	down(t, g, 2, 3, 4, "=$A$1+1")
	var want []api.Run
	for _, col := range []int{2, 3, 27, 52} {
		for _, top := range []int{1, 6, 20, 996} {
			want = append(want, run(col, top, top+3))
		}
	}
	want[4] = run(3, 1, 9)
	want = slices.Delete(want, 5, 6)
	if l := holdFind(t, g); !slices.Equal(l, want) {
		t.Errorf("%v, not %v", l, want)
	}
	// The same formulas in two columns side by side are no run of both, and a run in a row is none.
	g = grid.New()
	for col := 1; col <= 9; col++ {
		put(t, g, 1, col, "=$Z$1")
		put(t, g, 2, col, "=$Z$1")
		put(t, g, 3, col, "=$Z$1")
	}
	if l := holdFind(t, g); len(l) != 0 {
		t.Errorf("three rows: %v", l)
	}
	// A run that is longer, beside one that begins later and ends later.
	g = grid.New()
	down(t, g, 1, 2, 9, "=A1")
	down(t, g, 3, 3, 9, "=A1")
	down(t, g, 5, 1, 4, "=A1")
	if l := holdFind(t, g); !slices.Equal(l, []api.Run{run(1, 5, 8), run(2, 1, 9), run(3, 3, 11)}) {
		t.Errorf("side by side: %v", l)
	}
}

// P20.1: the same text is alike if all its references stay, another text if they go along.
func TestFindTexts(t *testing.T) {
	for _, try := range []struct {
		formula     string
		same, alike bool // whether five with the same text, five that are filled down, are a run
	}{
		{"=A9*2", false, true}, {"=$A9*2", false, true}, {"=A$9*2", true, true}, {"=$A$9*2", true, true}, {"=1+2", true, true},
		{"=SUM(A9:B12)", false, true}, {"=SUM(A$9:B12)", false, true}, {"=SUM(A9:B$12)", false, true}, {"=SUM($A9:$B12)", false, true}, {"=SUM(A$9:B$12)", true, true}, {"=SUM($A$9:$B$12)", true, true},
		{"=#REF!", true, true}, {"=#DIV/0!+A9", false, true}, {"=\"A9\"&\"b\"", true, true}, {"=\"A9\"&A9", false, true}, {"=TRUE", true, true},
		{"=IF(A9,B9,$C$9)", false, true}, {"=IF(A$9,B$9,$C$9)", true, true}, {"=ROUND(-A9,2)>=ROUND(B9,2)", false, true}, {"=IFERROR(SUM(A9,B$9,$C$9:D9),\"x\")", false, true}, {"=-A9", false, true}, {"=A9", false, true}, {"=A$9", true, true},
	} {
		for _, top := range []int{1, 500, 980} {
			g := grid.New()
			down(t, g, top, 7, 5, try.formula)
			if l := holdFind(t, g); (len(l) == 1 && l[0] == run(7, top, top+4)) != try.alike {
				t.Errorf("%s, filled down from %d on: %v", try.formula, top, l)
			}
			g = grid.New()
			for i := range 5 {
				put(t, g, top+i, 7, try.formula)
			}
			if l := holdFind(t, g); (len(l) == 1 && l[0] == run(7, top, top+4)) != try.same {
				t.Errorf("%s, five times from %d on: %v", try.formula, top, l)
			}
		}
	}
}

// P20.1: what a tree says plays a part, each thing by itself.
func TestFindOther(t *testing.T) {
	for _, pair := range [][2]string{
		{"=$A$1", "=$A1"}, {"=$A$1", "=A$1"}, {"=$A$1", "=$B$1"}, {"=$A$1", "=$A$2"}, {"=1", "=2"}, {"=1", "=\"1\""}, {"=1", "=-1"}, {"=TRUE", "=FALSE"}, {"=TRUE", "=1"}, {"=#REF!", "=#NUM!"}, {"=\"a\"", "=\"A\""},
		{"=$A$1+1", "=$A$1-1"}, {"=$A$1<1", "=$A$1<=1"}, {"=$A$1+1", "=1+$A$1"}, {"=MIN($A$1)", "=MAX($A$1)"}, {"=MIN(1,2)", "=MIN(2,1)"}, {"=MIN(1,2)", "=MIN(1)"}, {"=SUM($A$1)", "=SUM($A$1:$A$1)"}, {"=SUM($A$1:$A$2)", "=SUM($A$2:$A$1)"}, {"=1-(2-3)", "=1-2-3"}, {"=-$A$1*2", "=-($A$1*2)"},
	} {
		g := grid.New()
		down(t, g, 1, 3, 8, pair[0])
		put(t, g, 5, 3, pair[1])
		if l := holdFind(t, g); !slices.Equal(l, []api.Run{run(3, 1, 4)}) {
			t.Errorf("%s among %s: %v", pair[1], pair[0], l)
		}
		g = grid.New()
		for row := 1; row <= 8; row++ {
			put(t, g, row, 3, pair[row%2])
		}
		if l := holdFind(t, g); len(l) != 0 {
			t.Errorf("%s and %s by turns: %v", pair[0], pair[1], l)
		}
	}
}

// P20.1: a formula whose reference, filled down, leaves the sheet is not Alike to what is filled there; errors that stay are.
func TestFindLeaves(t *testing.T) {
	for _, try := range []struct {
		top     int
		formula string
		want    []api.Run
	}{
		{1, "=A996", []api.Run{run(2, 1, 5), run(2, 6, 12)}},
		{1, "=A997", []api.Run{run(2, 1, 4), run(2, 5, 12)}},
		{1, "=A998", []api.Run{run(2, 4, 12)}},
		{1, "=A1000+1", []api.Run{run(2, 2, 12)}},
		{1, "=SUM(A1:A996)*A1", []api.Run{run(2, 1, 5), run(2, 6, 12)}},
		{1, "=SUM(A996:A1)", []api.Run{run(2, 1, 5), run(2, 6, 12)}},
		{1, "=SUM(A1:A$1000)", []api.Run{run(2, 1, 12)}},
		{989, "=A989", []api.Run{run(2, 989, 1000)}},
		{989, "=A990", []api.Run{run(2, 989, 999)}},
	} {
		g := grid.New()
		down(t, g, try.top, 2, 12, try.formula)
		if l := holdFind(t, g); !slices.Equal(l, try.want) {
			t.Errorf("%s from %d on: %v", try.formula, try.top, l)
		}
	}
}

// P20.1: cells that are not in order, that are there twice, or off the sheet: none, even if runs lie among them.
func TestFindWrong(t *testing.T) {
	g := grid.New()
	down(t, g, 1, 1, 6, "=B1")
	down(t, g, 1, 52, 6, "=A1")
	down(t, g, 995, 3, 6, "=A1")
	put(t, g, 7, 7, "x")
	right := g.Cells()
	if l := Find(right); len(l) != 3 {
		t.Fatalf("as grid tells them: %v", l)
	}
	for i := range right {
		for j := range i {
			turned := slices.Clone(right)
			turned[i], turned[j] = turned[j], turned[i]
			if l := Find(turned); len(l) != 0 {
				t.Fatalf("the %d. and the %d. turned about: %v", i, j, l)
			}
		}
		for j := range len(right) + 1 {
			if l := Find(slices.Insert(slices.Clone(right), j, right[i])); len(l) != 0 {
				t.Fatalf("the %d. twice: %v", i, l)
			}
		}
		for _, n := range numbers() {
			for _, p := range []api.Place{at(n, right[i].Col), at(right[i].Row, n), at(n, n)} {
				if !onSheet(p.Row, p.Col) {
					moved := slices.Clone(right)
					moved[i].Row, moved[i].Col = p.Row, p.Col
					if l := Find(moved); len(l) != 0 {
						t.Fatalf("the %d. at %v: %v", i, p, l)
					}
				}
			}
		}
	}
	for _, p := range []api.Place{at(0, 1), at(1, 0), at(-1, 1), at(math.MinInt, 1), at(0, math.MinInt)} {
		for _, cell := range []api.Cell{{Row: p.Row, Col: p.Col}, {Row: p.Row, Col: p.Col, Is: true, X: right[0].X}} {
			if l := Find(slices.Insert(slices.Clone(right), 0, cell)); len(l) != 0 {
				t.Fatalf("with %v ahead: %v", p, l)
			}
		}
	}
	for _, p := range []api.Place{at(1001, 1), at(1000, 53), at(1001, 53), at(math.MaxInt, 1), at(1000, math.MaxInt), at(1<<32+1, 1)} {
		for _, cell := range []api.Cell{{Row: p.Row, Col: p.Col}, {Row: p.Row, Col: p.Col, Is: true, X: right[0].X}} {
			if l := Find(append(slices.Clone(right), cell)); len(l) != 0 {
				t.Fatalf("with %v behind: %v", p, l)
			}
		}
	}
	// By columns, where all else is right.
	byColumns := slices.Clone(right)
	slices.SortStableFunc(byColumns, func(a, b api.Cell) int { return a.Col - b.Col })
	if l := Find(byColumns); len(l) != 0 {
		t.Errorf("by columns: %v", l)
	}
}

// hand is cells of a column, made by hand.
func hand(col, top int, trees ...api.Exp) []api.Cell {
	var out []api.Cell
	for i, x := range trees {
		out = append(out, api.Cell{Row: top + i, Col: col, Is: true, X: x})
	}
	return out
}

// P20.1: a cell's place, whether it is a formula, and its tree play a part; its text, its value and a tree where there is no formula play none.
func TestFindFields(t *testing.T) {
	x := tree(t, "$A$1+1")
	l := hand(2, 1, x, x, x, x, x)
	for i := range l {
		l[i].Text = []string{"", "=A1", "x", "=$A$1+1", "="}[i]
		l[i].V = api.Value{K: i, N: int64(i), S: "x", E: i}
	}
	if got := Find(l); !slices.Equal(got, []api.Run{run(2, 1, 5)}) {
		t.Errorf("other texts and values: %v", got)
	}
	l[2].Is = false
	if got := Find(l); len(got) != 0 {
		t.Errorf("one that is no formula, with a tree: %v", got)
	}
	for i := range l {
		l[i].Is = false
	}
	if got := Find(l); len(got) != 0 {
		t.Errorf("no formulas, with trees: %v", got)
	}
	// The zero tree is the number 0: four of them are a run, and what is no formula is not one of them.
	l = hand(2, 1, api.Exp{}, api.Exp{}, api.Exp{}, api.Exp{}, api.Exp{})
	if got := Find(l); !slices.Equal(got, []api.Run{run(2, 1, 5)}) {
		t.Errorf("zero trees: %v", got)
	}
	l[0].Is = false
	if got := Find(l); !slices.Equal(got, []api.Run{run(2, 2, 5)}) {
		t.Errorf("zero trees below what is no formula: %v", got)
	}
	for _, at := range []int{4, 5} {
		l = hand(2, 1, make([]api.Exp, 9)...)
		l[at].Is = false
		want := []api.Run{run(2, 1, at)}
		if at == 4 {
			want = append(want, run(2, 6, 9))
		}
		if got := Find(l); !slices.Equal(got, want) {
			t.Errorf("zero trees above what is no formula, the %d.: %v", at, got)
		}
	}
	if got := Find(hand(2, 1, api.Exp{}, api.Exp{}, api.Exp{}, api.Exp{}, api.Exp{N: 1})); !slices.Equal(got, []api.Run{run(2, 1, 4)}) {
		t.Errorf("zero trees, and 0.0001: %v", got)
	}
}

// P20.1: of trees that can't be, what rel.Alike says holds.
func TestFindOdd(t *testing.T) {
	const least, most = math.MinInt, math.MaxInt
	ref := func(row, col int) api.Exp { return api.Exp{K: api.XRef, R: api.Ref{Row: row, Col: col}} }
	kind := func(k int) api.Exp { return api.Exp{K: k, N: 7, S: "x", L: []api.Exp{ref(1, 1)}} }
	for _, try := range []struct {
		trees []api.Exp
		want  []api.Run
	}{
		{[]api.Exp{ref(0, 0), ref(1, 0), ref(2, 0), ref(3, 0)}, []api.Run{run(5, 3, 6)}},
		{[]api.Exp{ref(-9, 99), ref(-8, 99), ref(-7, 99), ref(-6, 99)}, []api.Run{run(5, 3, 6)}},
		{[]api.Exp{ref(most-1, 1), ref(most, 1), ref(least, 1), ref(least+1, 1)}, []api.Run{run(5, 3, 6)}},
		{[]api.Exp{ref(most-1, 1), ref(most, 1), ref(least, 1), ref(least, 1)}, nil},
		{[]api.Exp{kind(9), kind(9), kind(9), kind(9)}, []api.Run{run(5, 3, 6)}},
		{[]api.Exp{kind(-1), kind(-1), kind(-1), kind(9)}, nil},
		{[]api.Exp{kind(most), kind(most), kind(most), kind(most), kind(least), kind(least)}, []api.Run{run(5, 3, 6)}},
		{[]api.Exp{{K: api.XBin}, {K: api.XBin}, {K: api.XBin}, {K: api.XBin}}, []api.Run{run(5, 3, 6)}},
		{[]api.Exp{{K: api.XCall, S: "NONE"}, {K: api.XCall, S: "NONE"}, {K: api.XCall, S: "NONE"}, {K: api.XCall, S: "NONE"}}, []api.Run{run(5, 3, 6)}},
		{[]api.Exp{{K: api.XCall, S: "NONE"}, {K: api.XCall, S: "NONE"}, {K: api.XCall, S: "NONE"}, {K: api.XCall, S: "NO"}}, nil},
		{[]api.Exp{{K: api.XErr, E: -5}, {K: api.XErr, E: -5}, {K: api.XErr, E: -5}, {K: api.XErr, E: -5}, {K: api.XErr, E: 99}}, []api.Run{run(5, 3, 6)}},
		{[]api.Exp{{K: api.XRange, R: api.Ref{Row: 1}}, {K: api.XRange, R: api.Ref{Row: 2}, R2: api.Ref{Row: 1}}, {K: api.XRange, R: api.Ref{Row: 3}, R2: api.Ref{Row: 2}}, {K: api.XRange, R: api.Ref{Row: 4}, R2: api.Ref{Row: 3}}}, []api.Run{run(5, 3, 6)}},
	} {
		l := hand(5, 3, try.trees...)
		if got := Find(l); !slices.Equal(got, try.want) {
			t.Errorf("%+v: %v", try.trees, got)
		}
		for i := range len(l) - 1 {
			a, b := l[i], l[i+1]
			if i < 3 && try.want != nil && !rel.Alike(a.X, a.Row, a.Col, b.X, b.Row, b.Col) {
				t.Errorf("%+v are not alike", try.trees)
			}
		}
	}
}

// P20.1: trees of 65536 in one another are no hindrance.
func TestFindDeep(t *testing.T) {
	deep := func(row int) api.Exp {
		x := api.Exp{K: api.XRef, R: api.Ref{Row: row, Col: 1}}
		for range 65535 {
			x = api.Exp{K: api.XNeg, L: []api.Exp{x}}
		}
		return x
	}
	if got := Find(hand(2, 1, deep(1), deep(2), deep(3), deep(4), deep(4))); !slices.Equal(got, []api.Run{run(2, 1, 4)}) {
		t.Errorf("deep ones: %v", got)
	}
}

// P20.1: Of at all places about each run, and far off.
func TestOf(t *testing.T) {
	l := []api.Run{run(2, 3, 7), run(2, 9, 12), run(3, 1, 1000), run(52, 997, 1000)}
	for _, try := range []struct {
		row, col int
		want     api.Run
	}{
		{3, 2, l[0]}, {5, 2, l[0]}, {7, 2, l[0]}, {9, 2, l[1]}, {12, 2, l[1]}, {1, 3, l[2]}, {1000, 3, l[2]}, {997, 52, l[3]}, {1000, 52, l[3]},
		{2, 2, api.Run{}}, {8, 2, api.Run{}}, {13, 2, api.Run{}}, {3, 1, api.Run{}}, {5, 4, api.Run{}}, {996, 52, api.Run{}}, {998, 51, api.Run{}},
		{0, 3, api.Run{}}, {1001, 3, api.Run{}}, {1001, 52, api.Run{}}, {1000, 53, api.Run{}}, {5, 0, api.Run{}}, {-5, 2, api.Run{}}, {5, -2, api.Run{}},
		{math.MinInt, 2, api.Run{}}, {math.MaxInt, 2, api.Run{}}, {5, math.MinInt, api.Run{}}, {5, math.MaxInt, api.Run{}}, {math.MaxInt, math.MaxInt, api.Run{}}, {math.MinInt, math.MinInt, api.Run{}},
	} {
		if r, is := Of(l, try.row, try.col); r != try.want || is != (try.want != api.Run{}) {
			t.Errorf("Of %d, %d: %v, %v", try.row, try.col, r, is)
		}
	}
	for _, l := range someRuns() {
		for _, row := range numbers() {
			for _, col := range numbers() {
				holdOf(t, l, row, col)
			}
		}
	}
}

// P20.1: of runs of which two have the place, the first.
func TestOfFirst(t *testing.T) {
	for _, l := range [][]api.Run{
		{run(2, 1, 5), run(2, 3, 8)}, {run(2, 3, 8), run(2, 1, 5)}, {run(2, 1, 9), run(2, 4, 4)}, {run(2, 4, 4), run(2, 1, 9)}, {run(3, 1, 9), run(2, 5, 1), run(2, 2, 6), run(2, 1, 9), run(2, 4, 5)},
	} {
		r, is := Of(l, 4, 2)
		i := slices.Index(l, r)
		if !is || i < 0 || slices.ContainsFunc(l[:i], func(r api.Run) bool { return r.Col == 2 && r.From <= 4 && r.To >= 4 }) {
			t.Errorf("Of %v, 4, 2: %v, %v", l, r, is)
		}
	}
}

// P20.2: Rest by hand.
func TestRest(t *testing.T) {
	l := []api.Run{run(2, 3, 7), run(2, 9, 12), run(3, 3, 6), run(52, 997, 1000)}
	for _, try := range []struct{ places, want []api.Place }{
		{nil, nil}, {[]api.Place{}, nil},
		{[]api.Place{at(0, 1), at(1, 0), at(0, 0), at(1001, 2), at(5, 53), at(-5, 2), at(math.MinInt, 2), at(5, math.MaxInt), at(math.MaxInt, math.MaxInt)}, nil},
		{[]api.Place{at(3, 2)}, []api.Place{at(3, 2), at(4, 2), at(5, 2), at(6, 2), at(7, 2)}},
		{[]api.Place{at(5, 2)}, []api.Place{at(5, 2), at(6, 2), at(7, 2)}},
		{[]api.Place{at(7, 2)}, []api.Place{at(7, 2)}},
		{[]api.Place{at(8, 2)}, []api.Place{at(8, 2)}},
		{[]api.Place{at(2, 2)}, []api.Place{at(2, 2)}},
		{[]api.Place{at(5, 4)}, []api.Place{at(5, 4)}},
		{[]api.Place{at(6, 2), at(6, 2)}, []api.Place{at(6, 2), at(7, 2)}},
		{[]api.Place{at(7, 2), at(5, 2), at(6, 2)}, []api.Place{at(5, 2), at(6, 2), at(7, 2)}},
		{[]api.Place{at(5, 2), at(7, 2)}, []api.Place{at(5, 2), at(6, 2), at(7, 2)}},
		{[]api.Place{at(11, 2), at(6, 2)}, []api.Place{at(6, 2), at(7, 2), at(11, 2), at(12, 2)}},
		{[]api.Place{at(5, 3), at(6, 2), at(1, 1), at(9, 9), at(0, 2)}, []api.Place{at(1, 1), at(5, 3), at(6, 2), at(6, 3), at(7, 2), at(9, 9)}},
		{[]api.Place{at(999, 52), at(1000, 51), at(1000, 1)}, []api.Place{at(999, 52), at(1000, 1), at(1000, 51), at(1000, 52)}},
	} {
		if got := holdRest(t, l, try.places); !slices.Equal(got, try.want) {
			t.Errorf("Rest of %v: %v", try.places, got)
		}
	}
	if got := Rest(nil, []api.Place{at(2, 2), at(1, 3), at(2, 2)}); !slices.Equal(got, []api.Place{at(1, 3), at(2, 2)}) {
		t.Errorf("Rest of no runs: %v", got)
	}
}

// P20.2: Rest of runs that can't be, and of such as are as long as the sheet, or longer: places of the sheet alone.
func TestRestOdd(t *testing.T) {
	var every []api.Place
	for _, row := range numbers() {
		for _, col := range numbers() {
			every = append(every, at(row, col))
		}
	}
	for _, l := range someRuns() {
		holdRest(t, l, nil)
		holdRest(t, l, every)
		for _, p := range every {
			if onSheet(p.Row, p.Col) || p.Row == p.Col {
				holdRest(t, l, []api.Place{p})
			}
		}
	}
	for _, to := range []int{1000, 1001, 1 << 40, math.MaxInt} {
		got := Rest([]api.Run{run(2, math.MinInt, to)}, []api.Place{at(1, 2)})
		if len(got) != 1000 || got[0] != at(1, 2) || got[999] != at(1000, 2) {
			t.Errorf("down to %d: %s", to, brief(got))
		}
	}
}

// P20.2: all places of the sheet, of runs that are all of it, and of none.
func TestRestWhole(t *testing.T) {
	var every []api.Place
	var runs []api.Run
	for col := 52; col >= 1; col-- {
		runs = append(runs, run(col, 1, 1000))
		for row := 1; row <= 1000; row++ {
			every = append(every, at(row, col))
		}
	}
	holdRest(t, runs, every)
	holdRest(t, nil, every)
	holdRest(t, runs, []api.Place{at(1, 1), at(500, 26), at(1000, 52)})
}

// P20.2: Kind of all lists of up to three of some values.
func TestKind(t *testing.T) {
	// What each is: 0 a Blank, 1 a Number, 2 another thing, by itself.
	all := []struct {
		v    api.Value
		kind int
	}{
		{api.Value{}, 0}, {api.Value{N: 5, S: "x", E: 2}, 0}, {api.Value{K: -1}, 0}, {api.Value{K: 5, N: 1}, 0}, {api.Value{K: math.MaxInt}, 0}, {api.Value{K: math.MinInt, S: "x"}, 0},
		{api.Value{K: api.Number}, 1}, {api.Value{K: api.Number, N: -12500, S: "x", E: 3}, 1}, {api.Value{K: api.Number, N: math.MaxInt64}, 1}, {api.Value{K: api.Number, N: -math.MaxInt64}, 1},
		{api.Value{K: api.Number, N: math.MinInt64}, 2}, {api.Value{K: api.Bool}, 2}, {api.Value{K: api.Bool, N: 7}, 2}, {api.Value{K: api.Text}, 2}, {api.Value{K: api.Text, S: "1"}, 2}, {api.Value{K: api.Text, S: string(make([]byte, 301))}, 2}, {api.Value{K: api.Error, E: api.EDiv}, 2}, {api.Value{K: api.Error, E: 99}, 2}, {api.Value{K: api.Error}, 2},
	}
	if Kind(nil) != 0 || Kind([]api.Value{}) != 0 {
		t.Error("of none")
	}
	for _, a := range all {
		for _, b := range all {
			for _, c := range all {
				if k := Kind([]api.Value{a.v, b.v, c.v}); k != max(a.kind, b.kind, c.kind) {
					t.Errorf("%v, %v, %v: %d", a.v, b.v, c.v, k)
				}
			}
			if k := Kind([]api.Value{a.v, b.v}); k != max(a.kind, b.kind) {
				t.Errorf("%v, %v: %d", a.v, b.v, k)
			}
		}
		if k := Kind([]api.Value{a.v}); k != a.kind {
			t.Errorf("%v: %d", a.v, k)
		}
	}
	// One among many, wherever it is.
	for _, at := range []int{0, 1, 500, 1998, 1999} {
		l := make([]api.Value, 2000)
		l[at] = api.Value{K: api.Number, N: 1}
		if k := Kind(l); k != 1 {
			t.Errorf("a number, the %d.: %d", at, k)
		}
		l[at] = api.Value{K: api.Error, E: 1}
		if k := Kind(l); k != 2 {
			t.Errorf("an error, the %d.: %d", at, k)
		}
	}
}
