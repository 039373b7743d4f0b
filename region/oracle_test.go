package region

import (
	"fmt"
	"math"
	"math/rand/v2"
	"regexp"
	"slices"
	"strings"
	"testing"

	"cadastre/api"
	"cadastre/coord"
	"cadastre/grid"
	"cadastre/lex"
	"cadastre/parse"
	"cadastre/print"
	"cadastre/rel"
)

// What the chapter's words come to, said apart from the package: a paper has, for each place of the sheet, what its formula's text is as seen from there, each reference written as how far it is away; two neighbours are alike if their texts are. From each place one goes up and down as far as they are.

// paper has the text of each formula as seen from its place, "" where there is none; row 0 and column 0 have none.
type paper [1002][53]string

var referenceForm = regexp.MustCompile(`^(\$?)(A?[A-Z])(\$?)([1-9][0-9]{0,2}|1000)$`)

// away is a reference as a word, as seen from a place; false of other words.
func away(word string, row, col int) (string, bool) {
	part := referenceForm.FindStringSubmatch(word)
	if part == nil {
		return "", false
	}
	toRow, toCol := 0, 0
	fmt.Sscan(part[4], &toRow)
	for _, letter := range part[2] {
		toCol = 26*toCol + int(letter-'@')
	}
	text := fmt.Sprintf("{row %d", toRow)
	if part[3] == "" {
		text = fmt.Sprintf("{%d on", toRow-row)
	}
	if part[1] == "" {
		return fmt.Sprintf("%s, %d along}", text, toCol-col), true
	}
	return fmt.Sprintf("%s, column %d}", text, toCol), true
}

// seen is a formula's text, in its one form, as seen from a place.
func seen(t *testing.T, s string, row, col int) string {
	t.Helper()
	tokens, at, e := lex.Words(s)
	if e != api.OK {
		t.Fatalf("%q is no formula: %d, %d", s, at, int(e))
	}
	text := ""
	for i, token := range tokens[:len(tokens)-1] {
		word, is := away(token.S, row, col)
		if token.K != api.TokWord || !is {
			word = s[token.At:tokens[i+1].At]
		}
		text += word
	}
	return text
}

// written is the paper of cells that a grid tells.
func written(t *testing.T, l []api.Cell) *paper {
	t.Helper()
	p := &paper{}
	for _, cell := range l {
		if cell.Is {
			p[cell.Row][cell.Col] = seen(t, strings.TrimPrefix(cell.Text, "="), cell.Row, cell.Col)
		}
	}
	return p
}

// joined tells whether a place and the one below it have formulas that are alike.
func (p *paper) joined(row, col int) bool {
	return row >= 1 && row < 1000 && p[row][col] != "" && p[row][col] == p[row+1][col]
}

// runs are what Find should tell.
func (p *paper) runs() []api.Run {
	var out []api.Run
	for col := 1; col <= 52; col++ {
		for row := 1; row <= 1000; row++ {
			if p[row][col] == "" || p.joined(row-1, col) {
				continue
			}
			last := row
			for p.joined(last, col) {
				last++
			}
			if last-row >= 3 {
				out = append(out, run(col, row, last))
			}
		}
	}
	return out
}

// has is what Of should answer: asked run by run from the last to the first.
func has(l []api.Run, row, col int) (api.Run, bool) {
	var out api.Run
	is := false
	for i := len(l) - 1; i >= 0; i-- {
		if l[i].Col == col && row >= l[i].From && row <= l[i].To {
			out, is = l[i], true
		}
	}
	return out, is
}

// below is what Rest should answer: a tick for each place of the sheet, gone over row by row.
func below(l []api.Run, places []api.Place) []api.Place {
	var ticks [1001][53]bool
	for _, p := range places {
		if !onSheet(p.Row, p.Col) {
			continue
		}
		ticks[p.Row][p.Col] = true
		r, is := has(l, p.Row, p.Col)
		for row := p.Row; is && row <= 1000 && row <= r.To; row++ {
			ticks[row][p.Col] = true
		}
	}
	var out []api.Place
	for row := range ticks {
		for col, tick := range ticks[row] {
			if tick {
				out = append(out, at(row, col))
			}
		}
	}
	return out
}

// onSheet tells whether there is such a place.
func onSheet(row, col int) bool { return row > 0 && row < 1001 && col > 0 && col < 53 }

// run, at: a run, a place.
func run(col, from, to int) api.Run { return api.Run{Col: col, From: from, To: to} }
func at(row, col int) api.Place     { return api.Place{Row: row, Col: col} }

// holdFind holds Find of a sheet against its paper.
func holdFind(t *testing.T, g *grid.Grid) []api.Run {
	t.Helper()
	l := g.Cells()
	got, want := Find(l), written(t, l).runs()
	if !slices.Equal(got, want) {
		t.Fatalf("Find of %s: %s, not %s", texts(l), brief(got), brief(want))
	}
	return got
}

// holdOf holds Of.
func holdOf(t *testing.T, l []api.Run, row, col int) {
	t.Helper()
	got, is := Of(l, row, col)
	want, wanted := has(l, row, col)
	if got != want || is != wanted {
		t.Fatalf("Of %s, %d, %d: %v, %v, not %v, %v", brief(l), row, col, got, is, want, wanted)
	}
}

// holdRest holds Rest.
func holdRest(t *testing.T, l []api.Run, places []api.Place) []api.Place {
	t.Helper()
	got, want := Rest(l, places), below(l, places)
	if !slices.Equal(got, want) {
		t.Fatalf("Rest of %s, %s: %s, not %s", brief(l), brief(places), brief(got), brief(want))
	}
	return got
}

// brief is a thing as a text, not too long; texts the same of cells.
func brief(v any) string {
	s := fmt.Sprintf("%v", v)
	if len(s) > 400 {
		return fmt.Sprintf("%s .. (%d bytes)", s[:400], len(s))
	}
	return s
}

func texts(l []api.Cell) string {
	var out []string
	for _, cell := range l {
		out = append(out, fmt.Sprintf("%d,%d: %s", cell.Row, cell.Col, cell.Text))
	}
	return brief(out)
}

// put puts a text into a cell.
func put(t *testing.T, g *grid.Grid, row, col int, text string) {
	t.Helper()
	if e := g.Set(row, col, text); e != api.OK {
		t.Fatalf("Set at %d, %d of %q: %d", row, col, text, int(e))
	}
}

// down lays a formula at a place, and fills it so many rows down in all.
func down(t *testing.T, g *grid.Grid, row, col, rows int, formula string) {
	t.Helper()
	put(t, g, row, col, formula)
	cell, _ := g.Cell(row, col)
	for i := 1; i < rows; i++ {
		put(t, g, row+i, col, "="+textOf(t, rel.Fill(cell.X, i, 0)))
	}
}

// textOf is the text of a tree that has one.
func textOf(t *testing.T, x api.Exp) string {
	t.Helper()
	text, e := print.Formula(x)
	if e != api.OK {
		t.Fatalf("%+v has no text", x)
	}
	return text
}

// tree is what a formula is read as.
func tree(t *testing.T, s string) api.Exp {
	t.Helper()
	x, at, e := parse.Formula(s)
	if e != api.OK {
		t.Fatalf("%q is no formula: %d, %d", s, at, int(e))
	}
	return x
}

// numbers are ints about the sheet's edges, and far off.
func numbers() []int {
	return []int{math.MinInt, math.MinInt + 1, -1 << 32, -1000, -2, -1, 0, 1, 2, 3, 4, 5, 6, 51, 52, 53, 54, 998, 999, 1000, 1001, 1002, 1 << 16, 1 << 32, 1<<32 + 1, math.MaxInt - 1, math.MaxInt}
}

// someRuns are runs, in order and not, of which some can't be: as long as the sheet and longer, of columns that are none, turned about, in one another.
func someRuns() [][]api.Run {
	return [][]api.Run{
		nil, {}, {run(2, 1, 5)}, {run(2, 1, 5), run(2, 6, 9)}, {run(2, 1, 5), run(3, 1, 5)}, {run(3, 2, 6), run(2, 1, 5)}, {run(1, 1, 4), run(52, 997, 1000)},
		{run(1, 1, 1000)}, {run(2, 1, 1000), run(52, 1, 1000)}, {run(2, 3, 3)}, {run(2, 3, 4), run(2, 1, 5)}, {run(2, 1, 5), run(2, 3, 4)}, {run(2, 1, 5), run(2, 4, 9)}, {run(2, 4, 9), run(2, 1, 5)}, {run(2, 1, 5), run(2, 1, 5)},
		{run(2, 5, 1)}, {run(2, 5, 1), run(2, 1, 5)}, {run(2, 6, 5)}, {{}}, {{}, run(2, 1, 5)}, {run(2, -5, 5)}, {run(2, 990, 1001)}, {run(2, 1, 1<<40)}, {run(2, math.MinInt, math.MaxInt)}, {run(2, math.MaxInt, math.MinInt)}, {run(2, 1, math.MaxInt), run(3, math.MinInt, 5)},
		{run(0, 1, 5)}, {run(53, 1, 5), run(52, 1, 5)}, {run(-1, 1, 5)}, {run(math.MinInt, 1, 5)}, {run(math.MaxInt, 1, 5)}, {run(math.MaxInt, math.MinInt, math.MaxInt), run(math.MinInt, math.MinInt, math.MaxInt)}, {run(2, 1001, 1005)}, {run(2, -5, 0)}, {run(1, 0, 0), run(1, 1001, 1001)},
	}
}

// chance makes sheets, runs and places by chance, the same in every run.
type chance struct {
	*rand.Rand
}

func byChance(seed uint64) chance { return chance{rand.New(rand.NewPCG(20, seed))} }

// of is one of these.
func of[T any](c chance, list []T) T { return list[c.IntN(len(list))] }

// corner is where a chance sheet begins: at the sheet's edges or within.
func (c chance) corner() (int, int) {
	return of(c, []int{1, 1, 2, 40, 985, 986}), of(c, []int{1, 1, 2, 25, 46, 47})
}

// formula is one of a few, of references near a place, which may be beside the sheet's edge.
func (c chance) formula(row, col int) string {
	r, k := min(max(row+c.IntN(3)-1, 1), 1000), min(col+c.IntN(2), 52)
	name := coord.ColName(k)
	switch c.IntN(9) {
	case 0:
		return fmt.Sprintf("=%s%d*2", name, r)
	case 1:
		return fmt.Sprintf("=$%s%d*2", name, r)
	case 2:
		return fmt.Sprintf("=%s$%d", name, r)
	case 3:
		return fmt.Sprintf("=SUM($%s$1:%s%d)", name, name, r)
	case 4:
		return fmt.Sprintf("=IF(%s%d,\"a\"&%s%d,-$A$1)", name, r, name, r)
	case 5:
		return "=#REF!"
	}
	return fmt.Sprintf("=%s%d+1", name, r)
}

// sheet is some columns side by side, of runs and of what is between them.
func (c chance) sheet(t *testing.T) *grid.Grid {
	t.Helper()
	g := grid.New()
	top, left := c.corner()
	for col := left; col < left+6; col++ {
		for row := top; row <= top+14; row++ {
			c.cell(t, g, row, col, row > top)
		}
	}
	return g
}

// cell lays one cell of a column: mostly the one above, filled down.
func (c chance) cell(t *testing.T, g *grid.Grid, row, col int, goOn bool) {
	t.Helper()
	above, is := g.Cell(row-1, col)
	switch n := c.IntN(12); {
	case n < 9 && goOn && is && above.Is:
		put(t, g, row, col, "="+textOf(t, rel.Fill(above.X, 1, 0)))
	case n == 9:
		put(t, g, row, col, of(c, []string{"", "5", "x", "'=A1"}))
	case n == 10 && goOn && is:
		put(t, g, row, col, above.Text)
	default:
		put(t, g, row, col, c.formula(row, col))
	}
}

// runs are some, often in one another, some of which can't be.
func (c chance) runs() []api.Run {
	var out []api.Run
	for range c.IntN(6) {
		r := run(1+c.IntN(4), 1+c.IntN(10), 0)
		r.To = r.From + c.IntN(8)
		switch c.IntN(8) {
		case 0:
			r.From = of(c, numbers())
		case 1:
			r.To = of(c, numbers())
		case 2:
			r.Col = of(c, numbers())
		}
		out = append(out, r)
	}
	return out
}

// places are some, in any order, some twice, some off the sheet.
func (c chance) places(most int) []api.Place {
	var out []api.Place
	for range c.IntN(most + 1) {
		p := at(1+c.IntN(16), 1+c.IntN(5))
		switch c.IntN(12) {
		case 0:
			p.Row = of(c, numbers())
		case 1:
			p.Col = of(c, numbers())
		case 2:
			p = at(p.Row+984, p.Col+47)
		}
		out = append(out, p)
	}
	return out
}
