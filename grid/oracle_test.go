package grid

import (
	"fmt"
	"math"
	"math/rand"
	"regexp"
	"slices"
	"strings"
	"testing"

	"cadastre/api"
	"cadastre/coord"
	"cadastre/parse"
	"cadastre/print"
	"cadastre/value"
)

// What the chapter's words come to, reckoned apart from the package. A sheet is a list of rows, each a list of texts: a row comes or goes as one is laid into the list or taken out of it. Formulas are held as texts alone, and rewritten as texts when rows come and go: where a reference's row is then, is where its card is in a list of cards.

const (
	least = math.MinInt
	most  = math.MaxInt
)

// sheet has the texts of all cells, empty of blank ones; a row in which nothing was ever put has none.
type sheet [][]string

func newSheet() sheet { return make(sheet, 1000) }

// clone is the same sheet, apart from this one.
func (s sheet) clone() sheet {
	other := make(sheet, len(s))
	for i := range s {
		other[i] = slices.Clone(s[i])
	}
	return other
}

// len is how many cells are not blank.
func (s sheet) len() int {
	n := 0
	for _, row := range s {
		for _, text := range row {
			if text != "" {
				n++
			}
		}
	}
	return n
}

// set is what Set should answer, and does to the sheet what it should do.
func (s sheet) set(row, col int, text string) api.Errno {
	if row < 1 || row > 1000 || col < 1 || col > 52 {
		return api.ErrOut
	}
	if len(text) > 300 {
		return api.ErrLong
	}
	if strings.HasPrefix(text, "=") {
		tidy, _, e := print.Tidy(text[1:])
		if e != api.OK {
			return e
		}
		text = "=" + tidy
	}
	if s[row-1] == nil {
		s[row-1] = make([]string, 52)
	}
	if text != "" && s[row-1][col-1] == "" && s.len() >= 2000 {
		return api.ErrFull
	}
	s[row-1][col-1] = text
	return api.OK
}

// deal is what happens to the rows: one comes ahead of row at, or row at goes.
type deal struct {
	comes bool
	at    int
}

func (d deal) String() string {
	if d.comes {
		return fmt.Sprintf("Insert(%d)", d.at)
	}
	return fmt.Sprintf("Delete(%d)", d.at)
}

// deals are both at one row.
func deals(at int) []deal { return []deal{{true, at}, {false, at}} }

// of does it to a sheet of the package.
func (d deal) of(g *Grid) api.Errno {
	if d.comes {
		return g.Insert(d.at)
	}
	return g.Delete(d.at)
}

// cards are the rows' numbers, in the order in which they lie then; 0 of the one that came.
func (d deal) cards() []int {
	var cards []int
	for row := 1; row <= 1000; row++ {
		cards = append(cards, row)
	}
	if d.comes {
		return slices.Insert(cards, d.at-1, 0)
	}
	return slices.Delete(cards, d.at-1, d.at)
}

// turned is what Insert or Delete should answer, and the sheet as it should be then: this one, if it is refused.
func (s sheet) turned(d deal) (sheet, api.Errno) {
	if d.at < 1 || d.at > 1000 {
		return s, api.ErrOut
	}
	then := s.clone()
	if d.comes {
		if strings.Join(s[999], "") != "" {
			return s, api.ErrFull
		}
		then = slices.Insert(then[:999], d.at-1, nil)
	} else {
		then = append(slices.Delete(then, d.at-1, d.at), nil)
	}
	cards := d.cards()
	for _, row := range then {
		for i, text := range row {
			if strings.HasPrefix(text, "=") {
				row[i] = rewritten(text, cards)
				if len(row[i]) > 300 {
					return s, api.ErrLong
				}
			}
		}
	}
	return then, api.OK
}

var (
	// What stands in quotes, errors' names, and references or two with a : between.
	pieces     = regexp.MustCompile(`"[^"]*"|#[A-Z/0]+!|\$?A?[A-Z]\$?[0-9]+(:\$?A?[A-Z]\$?[0-9]+)?`)
	references = regexp.MustCompile(`\b\$?A?[A-Z]\$?[0-9]+\b`)
	digits     = regexp.MustCompile(`[0-9]+$`)
)

// rewritten is a formula's text when the rows' cards lie so.
func rewritten(text string, cards []int) string {
	return pieces.ReplaceAllStringFunc(text, func(piece string) string {
		if piece[0] == '"' || piece[0] == '#' {
			return piece
		}
		ends := strings.Split(piece, ":")
		rows := rowsThen(ends, cards)
		if rows == nil {
			return "#REF!"
		}
		for i := range ends {
			ends[i] = digits.ReplaceAllString(ends[i], fmt.Sprint(rows[i]))
		}
		return strings.Join(ends, ":")
	})
}

// rowOf is the row that a reference's text says.
func rowOf(text string) int {
	row := 0
	fmt.Sscan(digits.FindString(text), &row)
	return row
}

// rowsThen are the rows of a reference or a range then, nil if none of its cards is left on the sheet.
func rowsThen(ends []string, cards []int) []int {
	first, last := rowOf(ends[0]), rowOf(ends[len(ends)-1])
	lo, hi := min(first, last), max(first, last)
	var left []int
	for i, card := range cards {
		if lo <= card && card <= hi && i < 1000 {
			left = append(left, i+1)
		}
	}
	if left == nil {
		return nil
	}
	from, to := left[0], left[len(left)-1]
	// A range whose last row is pushed out still goes up to the sheet's end.
	if len(ends) == 2 && len(cards) == 1001 && hi == 1000 {
		to = 1000
	}
	if first > last {
		from, to = to, from
	}
	return []int{from, to}[:len(ends)]
}

// cellOf is what the cell of a text should be.
func cellOf(row, col int, text string) api.Cell {
	cell := api.Cell{Row: row, Col: col, Text: text}
	if text[0] == '=' {
		cell.Is = true
		cell.X, _, _ = parse.Formula(text[1:])
	} else {
		cell.V = value.Literal(text)
	}
	return cell
}

// cells are what Cells should tell.
func (s sheet) cells() []api.Cell {
	var list []api.Cell
	for i, row := range s {
		for j, text := range row {
			if text != "" {
				list = append(list, cellOf(i+1, j+1, text))
			}
		}
	}
	return list
}

// alikeTree tells whether two trees have the same in all fields.
func alikeTree(a, b api.Exp) bool {
	return a.K == b.K && a.N == b.N && a.S == b.S && a.E == b.E && a.R == b.R && a.R2 == b.R2 && slices.EqualFunc(a.L, b.L, alikeTree)
}

// alike tells whether two cells have the same in all fields.
func alike(a, b api.Cell) bool {
	return a.Row == b.Row && a.Col == b.Col && a.Text == b.Text && a.Is == b.Is && a.V == b.V && alikeTree(a.X, b.X)
}

// holds holds all that a sheet of the package tells in lists against what it should be.
func holds(t *testing.T, g *Grid, want []api.Cell, when ...any) {
	t.Helper()
	got := g.Cells()
	if !slices.EqualFunc(got, want, alike) {
		t.Errorf("%q: cells %s, not %s", when, told(got), told(want))
	}
	if g.Len() != len(want) {
		t.Errorf("%v: Len is %d, not %d", when, g.Len(), len(want))
	}
}

// holdsAll does so cell by cell, too, at all places and beside them.
func holdsAll(t *testing.T, g *Grid, want []api.Cell, when ...any) {
	t.Helper()
	holds(t, g, want, when...)
	rest := want
	for row := 0; row <= 1001; row++ {
		for col := 0; col <= 53; col++ {
			is := len(rest) > 0 && rest[0].Row == row && rest[0].Col == col
			cell := api.Cell{}
			if is {
				cell, rest = rest[0], rest[1:]
			}
			if got, has := g.Cell(row, col); has != is || !alike(got, cell) {
				t.Errorf("%v: Cell(%d, %d): %+v, %v, not %+v, %v", when, row, col, got, has, cell, is)
			}
		}
	}
}

// told are cells as lines, not too many.
func told(list []api.Cell) string {
	lines := []string{fmt.Sprint(len(list))}
	for _, cell := range list[:min(len(list), 30)] {
		lines = append(lines, fmt.Sprintf("%s %q", coord.Print(api.Ref{Row: cell.Row, Col: cell.Col}), cell.Text))
	}
	return strings.Join(lines, "; ")
}

// sheetOf is a sheet of the package and one to hold it against, with lines such as "A1 =B2".
func sheetOf(t *testing.T, lines ...string) (*Grid, sheet) {
	t.Helper()
	g, s := New(), newSheet()
	for _, line := range lines {
		put(t, g, s, line)
	}
	return g, s
}

// put sets a line in both sheets.
func put(t *testing.T, g *Grid, s sheet, line string) {
	t.Helper()
	name, text, _ := strings.Cut(line, " ")
	r, ok := coord.Parse(name)
	if !ok {
		t.Fatalf("%s is no place", name)
	}
	if e := g.Set(r.Row, r.Col, text); e != api.OK || s.set(r.Row, r.Col, text) != api.OK {
		t.Fatalf("%q can't be put in: %d", line, int(e))
	}
}

// texts are a sheet's cells as lines.
func texts(g *Grid) []string {
	var lines []string
	for _, cell := range g.Cells() {
		lines = append(lines, coord.Print(api.Ref{Row: cell.Row, Col: cell.Col})+" "+cell.Text)
	}
	return lines
}

// long is a formula of so many bytes, its = too, that begins like that.
func long(beginning string, bytes int) string {
	return beginning + `&"` + strings.Repeat("a", bytes-len(beginning)-3) + `"`
}

// maker makes sheets by chance, from a beginning that is always the same.
type maker struct{ *rand.Rand }

func newMaker(seed int64) maker { return maker{rand.New(rand.NewSource(seed))} }

// of is one of these words.
func (m maker) of(words string) string {
	list := strings.Fields(words)
	return list[m.Intn(len(list))]
}

// row is one of the sheet's, often near an edge.
func (m maker) row() int {
	switch m.Intn(5) {
	case 0, 1:
		return 1 + m.Intn(12)
	case 2:
		return 995 + m.Intn(5)
	case 3:
		return 98 + m.Intn(4)
	}
	return 1 + m.Intn(1000)
}

// ref is a reference's text; a row has it that is the last only if that may be.
func (m maker) ref(last bool) string {
	row := m.row()
	if last && m.Intn(20) == 0 {
		row = 1000
	} else if !last {
		row = min(row, 999)
	}
	return coord.Print(api.Ref{Row: row, Col: 1 + m.Intn(52), AbsRow: m.Intn(3) == 0, AbsCol: m.Intn(3) == 0})
}

// formula is a formula's text, without its =, with blanks and brackets more than it needs.
func (m maker) formula(deep int, last bool) string {
	kind := m.Intn(9)
	if deep == 0 {
		kind = m.Intn(4)
	}
	switch kind {
	case 0, 1, 2:
		return m.ref(last)
	case 3:
		return m.of(`1 007 2.50 9.99995 TRUE FALSE "" "A1" "a""A5:A6""" #REF! #DIV/0! #CYCLE!`)
	case 4:
		return "-" + m.of("( -( --(") + m.formula(deep-1, last) + ")"
	case 5:
		return "( " + m.formula(deep-1, last) + " )"
	case 6:
		return m.of("SUM COUNT MAX AND CONCAT") + "(" + m.ref(last) + m.of(": : ,") + m.ref(last) + ", " + m.formula(deep-1, last) + ")"
	}
	return m.formula(deep-1, last) + m.of("= <> < <= > >= & + - * /") + m.formula(deep-1, last)
}

// text is what may be put into a cell: literals, formulas, some nearly too long, some that can't be.
func (m maker) text() string {
	switch m.Intn(12) {
	case 0:
		return ""
	case 1:
		return m.of("1 -1.50 007 99999999999999999999 TRUE FALSE true #REF! #NUM! #NO! ' 'TRUE '=1 abc A1 -")
	case 2:
		return m.of("= =1+ =A0 =A1001 =BA1 =SUM() =IF(1) =) =A1:A2 == =99999999999999999999 =a") + m.of("1 ) ? ( ;")
	case 3:
		return long("="+m.of("A9 $B99 C$999 D7")+"+"+m.ref(true), 295+m.Intn(7))
	case 4:
		return strings.Repeat("a", 298+m.Intn(5))
	}
	text := "= " + m.formula(1+m.Intn(3), m.Intn(4) == 0)
	return text[:min(len(text), 300)]
}

// named is a row that a formula names which is nearly too long, if there is one; else any.
func (m maker) named(g *Grid) int {
	for _, cell := range g.Cells() {
		if list := references.FindAllString(cell.Text, -1); list != nil && len(cell.Text) > 290 {
			return rowOf(list[m.Intn(len(list))])
		}
	}
	return m.row()
}

// place is one of the sheet's, in few columns; at times beside it.
func (m maker) place() (int, int) {
	switch m.Intn(60) {
	case 0:
		return ends[m.Intn(len(ends))], 1
	case 1:
		return 1, ends[m.Intn(len(ends))]
	case 2:
		return 1000, 1 + m.Intn(52)
	}
	return min(m.row(), 999), []int{1, 2, 26, 27, 52}[m.Intn(5)]
}

// ends are ints that are neither a row nor a column.
var ends = []int{least, least + 1, -1 << 32, -1<<32 + 7, -1 << 31, -1001, -53, -2, -1, 0, 1001, 1002, 1 << 16, 1<<16 + 7, 1 << 31, 1 << 32, 1<<32 + 7, 1 << 62, most - 1, most}

// sheet is one made by chance that holds nothing in the last row, and whose formulas have room to grow.
func (m maker) sheet(cells int, last bool) (*Grid, sheet) {
	g, s := New(), newSheet()
	for range cells {
		row, col := min(m.row(), 999), 1+m.Intn(52)
		text := m.text()
		if m.Intn(2) == 0 || !last {
			text = "=" + m.formula(m.Intn(3), last)
		}
		if len(text) < 250 {
			g.Set(row, col, text)
			s.set(row, col, text)
		}
	}
	return g, s
}
