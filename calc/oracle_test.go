package calc

import (
	"fmt"
	"math"
	"math/rand/v2"
	"regexp"
	"slices"
	"strings"
	"testing"

	"cadastre/api"
	"cadastre/coord"
	"cadastre/eval"
	"cadastre/grid"
	"cadastre/value"
)

// What the chapter's words come to, said apart from the package: what is done to a Calc is done to a grid beside it, too. Which formula needs which is read off their texts; who needs whom by others off a table of all against all. What they come to is reckoned in rounds, in each of which all those are that wait for none.

// refs are references and ranges in a formula's text, texts within it taken out.
var (
	quoted = regexp.MustCompile(`"[^"]*"`)
	refs   = regexp.MustCompile(`\$?([A-Z]+)\$?([0-9]+)(?::\$?([A-Z]+)\$?([0-9]+))?`)
)

// number is a column's or a row's.
func number(s string) int {
	n := 0
	if s[0] >= 'A' {
		for _, letter := range s {
			n = 26*n + int(letter-'A') + 1
		}
	} else {
		fmt.Sscan(s, &n)
	}
	return n
}

// names tells whether a formula's text names a place.
func names(text string, at api.Place) bool {
	for _, found := range refs.FindAllStringSubmatch(quoted.ReplaceAllString(text, ""), -1) {
		if found[3] == "" {
			found[3], found[4] = found[1], found[2]
		}
		var ends [4]int
		for i := range ends {
			ends[i] = number(found[i+1])
		}
		if min(ends[0], ends[2]) <= at.Col && at.Col <= max(ends[0], ends[2]) && min(ends[1], ends[3]) <= at.Row && at.Row <= max(ends[1], ends[3]) {
			return true
		}
	}
	return false
}

// placeOf is a cell's place.
func placeOf(cell api.Cell) api.Place { return api.Place{Row: cell.Row, Col: cell.Col} }

// meant is what a sheet's cells mean.
type meant struct {
	cells    []api.Cell // all that are not blank
	formulas []api.Cell // those that are formulas
	needs    [][]bool   // of the formulas: which needs which, itself or by others
	values   map[api.Place]api.Value
}

// meaning is what a sheet means.
func meaning(g *grid.Grid) *meant {
	m := &meant{cells: g.Cells(), values: map[api.Place]api.Value{}}
	for _, cell := range m.cells {
		if cell.Is {
			m.formulas = append(m.formulas, cell)
		} else {
			m.values[placeOf(cell)] = value.Literal(cell.Text)
		}
	}
	m.tick()
	waits := make([]bool, len(m.formulas))
	for i, cell := range m.formulas {
		if waits[i] = !m.needs[i][i]; !waits[i] {
			m.values[placeOf(cell)] = api.Value{K: api.Error, E: api.ECycle}
		}
	}
	for slices.Contains(waits, true) {
		m.round(waits)
	}
	return m
}

// tick fills the table in.
func (m *meant) tick() {
	for _, a := range m.formulas {
		var line []bool
		for _, b := range m.formulas {
			line = append(line, names(a.Text, placeOf(b)))
		}
		m.needs = append(m.needs, line)
	}
	for by := range m.needs {
		for a := range m.needs {
			for b := range m.needs {
				m.needs[a][b] = m.needs[a][b] || m.needs[a][by] && m.needs[by][b]
			}
		}
	}
}

// round reckons those formulas that wait, but need none that does.
func (m *meant) round(waits []bool) {
	board := eval.New()
	for at, v := range m.values {
		board.Put(at.Row, at.Col, v)
	}
	before := slices.Clone(waits)
	for i, cell := range m.formulas {
		ready := before[i]
		for j, needed := range m.needs[i] {
			ready = ready && !(needed && before[j])
		}
		if ready {
			m.values[placeOf(cell)], waits[i] = eval.Formula(cell.X, board), false
		}
	}
}

// all is what All should tell.
func (m *meant) all() []api.Known {
	var list []api.Known
	for _, cell := range m.cells {
		if v := m.values[placeOf(cell)]; v != (api.Value{}) {
			list = append(list, api.Known{Row: cell.Row, Col: cell.Col, V: v})
		}
	}
	return list
}

// reach are the formulas that are at a place, or need it, themselves or by others.
func (m *meant) reach(at api.Place) []api.Place {
	var list []api.Place
	for i, cell := range m.formulas {
		is := placeOf(cell) == at || names(cell.Text, at)
		for j, needed := range m.needs[i] {
			is = is || needed && names(m.formulas[j].Text, at)
		}
		if is {
			list = append(list, placeOf(cell))
		}
	}
	return list
}

// alone is how many formulas do not need themselves.
func (m *meant) alone() int {
	n := 0
	for i := range m.formulas {
		if !m.needs[i][i] {
			n++
		}
	}
	return n
}

// edges are places at the sheet's edges and within.
func edges() []api.Place {
	var list []api.Place
	for _, row := range []int{1, 2, 51, 52, 53, 500, 999, 1000} {
		for _, col := range []int{1, 2, 26, 27, 51, 52} {
			list = append(list, api.Place{Row: row, Col: col})
		}
	}
	return list
}

// noRows are ints that are no rows; noCols that are no columns.
func noRows() []int {
	return []int{0, -1, -2, -1000, 1001, 1002, 2000, 1 << 16, 1<<16 + 1, math.MinInt32, math.MaxInt32, 1 << 32, 1<<32 + 1, math.MinInt, math.MinInt + 1, math.MaxInt}
}

func noCols() []int { return append(noRows(), -52, 53, 54, 104, 257, 1000) }

// noPlaces are places that the sheet has not.
func noPlaces() []api.Place {
	var list []api.Place
	for _, row := range noRows() {
		for _, col := range []int{1, 26, 52, 0, 53, -1, row} {
			list = append(list, api.Place{Row: row, Col: col})
		}
	}
	for _, col := range noCols() {
		for _, row := range []int{1, 500, 1000} {
			list = append(list, api.Place{Row: row, Col: col})
		}
	}
	return list
}

// literal is a value as a cell's text would be.
func literal(v api.Value) string {
	if v.K == api.Text {
		return "'" + v.S
	}
	return value.Show(v)
}

// name is a place's.
func name(row, col int) string { return coord.Print(api.Ref{Row: row, Col: col}) }

// shown is what All tells, as lines such as "A1 5; B1 'x".
func shown(list []api.Known) string {
	var lines []string
	for _, k := range list {
		lines = append(lines, name(k.Row, k.Col)+" "+literal(k.V))
	}
	return brief(strings.Join(lines, "; "))
}

// texts are a sheet's texts, likewise.
func texts(g *grid.Grid) string {
	var lines []string
	for _, cell := range g.Cells() {
		lines = append(lines, name(cell.Row, cell.Col)+" "+cell.Text)
	}
	return brief(strings.Join(lines, "; "))
}

// brief is a text, not too long.
func brief(s string) string {
	if len(s) > 1500 {
		return fmt.Sprintf("%s .. (%d bytes)", s[:1500], len(s))
	}
	return s
}

// parts are what stands between "; ".
func parts(lines string) []string {
	if lines == "" {
		return nil
	}
	return strings.Split(lines, "; ")
}

// line cuts "A1 =B2" into a place and a text.
func line(t *testing.T, s string) (api.Place, string) {
	t.Helper()
	at, text, _ := strings.Cut(s, " ")
	r, ok := coord.Parse(at)
	if !ok {
		t.Fatalf("%q names no place", s)
	}
	return api.Place{Row: r.Row, Col: r.Col}, text
}

// gridOf is a sheet of lines.
func gridOf(t *testing.T, lines string) *grid.Grid {
	t.Helper()
	g := grid.New()
	for _, s := range parts(lines) {
		at, text := line(t, s)
		if e := g.Set(at.Row, at.Col, text); e != api.OK {
			t.Fatalf("%q can't be put in: %d", s, int(e))
		}
	}
	return g
}

// holds holds a Calc against the sheet that it should be.
func holds(t *testing.T, c *Calc, g *grid.Grid, when ...any) *meant {
	t.Helper()
	m := meaning(g)
	if got, want := c.All(), m.all(); !slices.Equal(got, want) {
		t.Fatalf("%v: of %s: %s, not %s", when, texts(g), shown(got), shown(want))
	}
	list := edges()
	for _, cell := range m.cells {
		list = append(list, placeOf(cell), api.Place{Row: cell.Row, Col: min(cell.Col+1, 52)})
	}
	for _, at := range list {
		holdsAt(t, c, g, m, at, when...)
	}
	return m
}

// holdsAt does so at one place of the sheet.
func holdsAt(t *testing.T, c *Calc, g *grid.Grid, m *meant, at api.Place, when ...any) {
	t.Helper()
	if v, e := c.Value(at.Row, at.Col); v != m.values[at] || e != api.OK {
		t.Fatalf("%v: of %s: Value at %s: %q, %d, not %q", when, texts(g), name(at.Row, at.Col), literal(v), int(e), literal(m.values[at]))
	}
	cell, _ := g.Cell(at.Row, at.Col)
	if text, e := c.Text(at.Row, at.Col); text != cell.Text || e != api.OK {
		t.Fatalf("%v: of %s: Text at %s: %q, %d, not %q", when, texts(g), name(at.Row, at.Col), text, int(e), cell.Text)
	}
}

// edit is what is done to a sheet: a Set, or a row that comes, or goes.
type edit struct {
	word     string
	row, col int
	text     string
}

// of does it to a sheet, of either kind.
func (d edit) of(s interface {
	Set(row, col int, text string) api.Errno
	Insert(at int) api.Errno
	Delete(at int) api.Errno
}) api.Errno {
	switch d.word {
	case "insert":
		return s.Insert(d.row)
	case "delete":
		return s.Delete(d.row)
	}
	return s.Set(d.row, d.col, d.text)
}

// do does an edit to a Calc and to the sheet that it should be, and holds them against one another: what they answer, what they are then, what was reckoned, and what was not to change.
func do(t *testing.T, c *Calc, g *grid.Grid, d edit) *meant {
	t.Helper()
	before := c.All()
	was := map[api.Place]api.Value{}
	for _, k := range before {
		was[api.Place{Row: k.Row, Col: k.Col}] = k.V
	}
	told := texts(g)
	want := d.of(g)
	if e := d.of(c); e != want {
		t.Fatalf("%v of %s: %d, not %d", d, told, int(e), int(want))
	}
	work := c.Work()
	m := holds(t, c, g, d, told)
	if want != api.OK {
		if work != 0 || !slices.Equal(c.All(), before) {
			t.Fatalf("%v of %s is refused: Work is %d, All is %s", d, told, work, shown(c.All()))
		}
		return m
	}
	fewest, most := 0, len(m.formulas)
	if d.word == "set" {
		reach := m.reach(api.Place{Row: d.row, Col: d.col})
		fewest, most = m.changed(was, reach), len(reach)
		m.holdsFar(t, was, api.Place{Row: d.row, Col: d.col}, reach)
	}
	if work < fewest || work > most {
		t.Fatalf("%v of %s: Work is %d, not from %d to %d", d, told, work, fewest, most)
	}
	return m
}

// changed is how many of these formulas come to something else than what was there: so many at least were reckoned anew.
func (m *meant) changed(was map[api.Place]api.Value, formulas []api.Place) int {
	n := 0
	for _, at := range formulas {
		if m.values[at] != was[at] {
			n++
		}
	}
	return n
}

// holdsFar holds what is far away from a cell that was Set: it is as it was.
func (m *meant) holdsFar(t *testing.T, was map[api.Place]api.Value, set api.Place, reach []api.Place) {
	t.Helper()
	for at, v := range m.values {
		if at != set && !slices.Contains(reach, at) && v != was[at] {
			t.Fatalf("%s is out of reach: %q, and was %q", name(at.Row, at.Col), literal(v), literal(was[at]))
		}
	}
	for at := range was {
		if at != set && m.values[at] == (api.Value{}) {
			t.Fatalf("%s is Blank now", name(at.Row, at.Col))
		}
	}
}

// chance makes sheets and edits by chance, the same in every run.
type chance struct {
	*rand.Rand
}

func byChance(seed uint64) chance { return chance{rand.New(rand.NewPCG(18, seed))} }

// of is one of these words.
func (c chance) of(words string) string {
	list := strings.Fields(words)
	return list[c.IntN(len(list))]
}

// place is mostly near the first ones, sometimes at the last ones.
func (c chance) place() api.Place {
	at := api.Place{Row: 1 + c.IntN(6), Col: 1 + c.IntN(3)}
	if c.IntN(25) == 0 {
		at.Row = 999 + c.IntN(2)
	}
	if c.IntN(25) == 0 {
		at.Col = 51 + c.IntN(2)
	}
	return at
}

// any is a place, or none.
func (c chance) any() api.Place {
	if from := noPlaces(); c.IntN(25) == 0 {
		return from[c.IntN(len(from))]
	}
	return c.place()
}

// ref is a reference's text.
func (c chance) ref() string {
	at := c.place()
	return coord.Print(api.Ref{Row: at.Row, Col: at.Col, AbsRow: c.IntN(4) == 0, AbsCol: c.IntN(4) == 0})
}

// formula is a formula's text, without its =.
func (c chance) formula(deep int) string {
	kind := c.IntN(12)
	if deep == 0 {
		kind = c.IntN(6)
	}
	inner := func() string { return c.formula(deep - 1) }
	switch kind {
	case 0, 1, 2, 3:
		return c.ref()
	case 4, 5:
		return c.of(`1 2 3.5 0 TRUE FALSE "A1" "7" "" #REF! #CYCLE! 10`)
	case 6:
		return c.of("SUM COUNT MAX AND CONCAT") + "(" + c.ref() + ":" + c.ref() + "," + inner() + ")"
	case 7:
		return "IF(" + c.of("TRUE FALSE A1 B2>1 ISERROR(A1)") + "," + inner() + "," + inner() + ")"
	case 8:
		return c.of("IFERROR(A2, IFERROR(B1, MOD(7, INDEX(A1:B3,") + inner() + ")"
	case 9:
		return c.of("ISERROR NOT ABS LEN") + "(" + inner() + ")"
	}
	return inner() + c.of("+ - * / & = <>") + inner()
}

// text is what may be put into a cell; now and then what can't be.
func (c chance) text() string {
	switch c.IntN(14) {
	case 0, 1:
		return ""
	case 2, 3, 4:
		return c.of("1 -2.5 0 TRUE FALSE #DIV/0! #CYCLE! ' '5 x A1 99999999999999999999")
	case 5:
		return c.of("= =1+ =A0 =BA1 =SUM() =A1:A2 =A1001") + c.of("1 ) ? (")
	case 6:
		return "=" + strings.Repeat("(", 41) + "1" + strings.Repeat(")", 41)
	case 7:
		return strings.Repeat("x", 299+c.IntN(3))
	}
	return "=" + c.formula(c.IntN(3))
}

// edit is one of any kind.
func (c chance) edit() edit {
	at := c.any()
	switch c.IntN(12) {
	case 0:
		return edit{word: "insert", row: at.Row}
	case 1:
		return edit{word: "delete", row: at.Row}
	}
	return edit{"set", at.Row, at.Col, c.text()}
}

// grid is a sheet with some cells.
func (c chance) grid(cells int) *grid.Grid {
	g := grid.New()
	for range cells {
		at := c.place()
		g.Set(at.Row, at.Col, c.text())
	}
	return g
}
