package move

import (
	"fmt"
	"math"
	"math/rand"
	"regexp"
	"slices"
	"strings"
	"testing"

	"cadastre/api"
	"cadastre/lex"
	"cadastre/parse"
)

// What the chapter's words come to, reckoned apart from the package. The sheet's rows are cards in a list, into which a blank card is laid, or out of which one is taken; where a row is then, is where its card is found. A range is held by its cards. A tree is laid out flat: a line for each tree that lies in it, from left to right; whether a line is a part of the formula is told by the kinds of those it lies in. Formulas are rewritten as texts, word by word, too.

const (
	least = math.MinInt
	most  = math.MaxInt
)

func aNum(n int64) api.Exp                     { return api.Exp{K: api.XNum, N: n} }
func aText(s string) api.Exp                   { return api.Exp{K: api.XText, S: s} }
func aBool(n int64) api.Exp                    { return api.Exp{K: api.XBool, N: n} }
func anError(e int) api.Exp                    { return api.Exp{K: api.XErr, E: e} }
func aRef(r api.Ref) api.Exp                   { return api.Exp{K: api.XRef, R: r} }
func aRange(r, r2 api.Ref) api.Exp             { return api.Exp{K: api.XRange, R: r, R2: r2} }
func aNeg(parts ...api.Exp) api.Exp            { return api.Exp{K: api.XNeg, L: parts} }
func aBin(s string, parts ...api.Exp) api.Exp  { return api.Exp{K: api.XBin, S: s, L: parts} }
func aCall(s string, parts ...api.Exp) api.Exp { return api.Exp{K: api.XCall, S: s, L: parts} }
func at(row, col int) api.Ref                  { return api.Ref{Row: row, Col: col} }
func times(n int, e api.Exp) []api.Exp         { return slices.Repeat([]api.Exp{e}, n) }

var (
	one  = aNum(10000)
	gone = anError(api.ERef)
)

// tree is what a formula is read as.
func tree(t *testing.T, s string) api.Exp {
	t.Helper()
	x, at, e := parse.Formula(s)
	if e != api.OK {
		t.Fatalf("%q is no formula: %d, %d", s, at, int(e))
	}
	return x
}

// deal is what happens to the sheet: a row comes ahead of row at, or row at goes.
type deal struct {
	comes bool
	at    int
}

// tree is what the package makes of a formula then, row where it says that a row is.
func (d deal) tree(e api.Exp) api.Exp {
	if d.comes {
		return Insert(e, d.at)
	}
	return Delete(e, d.at)
}

func (d deal) row(row int) int {
	if d.comes {
		return Inserted(row, d.at)
	}
	return Deleted(row, d.at)
}

// deals are both at one row.
func deals(at int) []deal { return []deal{{true, at}, {false, at}} }

// dealt keeps what cards came to.
var dealt = map[deal][]int{}

// cards are for each row from 0 to 1001 the place where its card is then; -1 of a card that was taken away.
func cards(d deal) []int {
	// Ahead of the sheet and behind it there is one more card: as far as the sheet's rows go, all places there are alike.
	d.at = max(0, min(d.at, 1001))
	if places, ok := dealt[d]; ok {
		return places
	}
	var stack []int
	for row := range 1002 {
		stack = append(stack, row)
	}
	if d.comes {
		stack = slices.Insert(stack, d.at, -1)
	} else {
		stack = slices.Delete(stack, d.at, d.at+1)
	}
	places := slices.Repeat([]int{-1}, 1002)
	for place, card := range stack {
		if card >= 0 {
			places[card] = place
		}
	}
	dealt[d] = places
	return places
}

// rowThen is where a row should be then, or 0.
func rowThen(row int, d deal) int {
	if row < 1 || row > 1000 {
		return 0
	}
	if place := cards(d)[row]; 1 <= place && place <= 1000 {
		return place
	}
	return 0
}

// rangeThen is where the first and the last of a range's cards that are left should be then; false, if none is left on the sheet. What is pushed out behind the sheet leaves the range up to the sheet's last row.
func rangeThen(lo, hi int, d deal) (int, int, bool) {
	left := slices.DeleteFunc(slices.Clone(cards(d)[lo:hi+1]), func(place int) bool { return place < 0 })
	if len(left) == 0 || left[0] > 1000 {
		return 0, 0, false
	}
	return left[0], min(left[len(left)-1], 1000), true
}

// parts of a tree, each as a line without its list: the line in whose list it lies, and where there; whether it is a part of the formula.
type line struct {
	under, at int
	part      bool
	k         int
	n         int64
	s         string
	e         int
	r, r2     api.Ref
}

// flat are a tree's lines.
func flat(e api.Exp) []line {
	type todo struct {
		e         api.Exp
		under, at int
		part      bool
	}
	var lines []line
	for work := []todo{{e, -1, 0, true}}; len(work) > 0; {
		next := work[len(work)-1]
		work = work[:len(work)-1]
		e := next.e
		for i := len(e.L) - 1; i >= 0; i-- {
			work = append(work, todo{e.L[i], len(lines), i, next.part && 6 <= e.K && e.K <= 8})
		}
		lines = append(lines, line{next.under, next.at, next.part, e.K, e.N, e.S, e.E, e.R, e.R2})
	}
	return lines
}

// alike tells whether two trees have the same in all fields, those that play no part too.
func alike(a, b api.Exp) bool { return slices.Equal(flat(a), flat(b)) }

// lineThen is what a reference or a range should be then; false, if it is gone.
func lineThen(l line, d deal) (line, bool) {
	if l.k == 4 {
		l.r.Row = rowThen(l.r.Row, d)
		return l, l.r.Row != 0
	}
	lo, hi, ok := rangeThen(min(l.r.Row, l.r2.Row), max(l.r.Row, l.r2.Row), d)
	if l.r.Row > l.r2.Row {
		lo, hi = hi, lo
	}
	l.r.Row, l.r2.Row = lo, hi
	return l, ok
}

// then are the lines of what a formula should be then.
func then(e api.Exp, d deal) []line {
	if !parse.Well(e) {
		return flat(api.Exp{})
	}
	var lines []line
	now := map[int]int{-1: -1} // where those lines are now that are still there, and have lists
	for i, l := range flat(e) {
		under, stays := now[l.under]
		if !stays {
			continue
		}
		if l.part && (l.k == 4 || l.k == 5) {
			l, stays = lineThen(l, d)
		}
		if stays {
			now[i] = len(lines)
		} else {
			l = line{at: l.at, part: l.part, k: 3, e: 1}
		}
		l.under = under
		lines = append(lines, l)
	}
	return lines
}

// areas are the rows and columns of each reference and range of a tree: first and last.
func areas(e api.Exp) []api.Rect {
	var list []api.Rect
	for _, l := range flat(e) {
		switch {
		case l.part && l.k == 4:
			list = append(list, api.Rect{Row: l.r.Row, Col: l.r.Col, Row2: l.r.Row, Col2: l.r.Col})
		case l.part && l.k == 5:
			list = append(list, api.Rect{Row: min(l.r.Row, l.r2.Row), Col: min(l.r.Col, l.r2.Col), Row2: max(l.r.Row, l.r2.Row), Col2: max(l.r.Col, l.r2.Col)})
		}
	}
	return list
}

// rowsOf has of a column the rows that a formula names.
type rowsOf [53][1002]bool

// named are the places that a tree names.
func named(e api.Exp) *rowsOf {
	places := &rowsOf{}
	for _, area := range areas(e) {
		for col := area.Col; col <= area.Col2; col++ {
			for row := area.Row; row <= area.Row2; row++ {
				places[col][row] = true
			}
		}
	}
	return places
}

// namedThen are the places that a tree should name then, told by those that it names now: P11.3.
func namedThen(e api.Exp, d deal) *rowsOf {
	places := &rowsOf{}
	before := named(e)
	for row := range 1002 {
		place := rowThen(row, d)
		for col := range before {
			if place > 0 && before[col][row] {
				places[col][place] = true
			}
		}
	}
	for _, area := range areas(e) {
		for col := area.Col; col <= area.Col2; col++ {
			if d.comes && area.Row < d.at && d.at <= area.Row2 {
				places[col][d.at] = true
			}
		}
	}
	return places
}

// beginsAtTop tells whether a range of the tree has row 1: of that one, if a row below it goes, P11.2 says that its row is 0, which is none.
func beginsAtTop(e api.Exp) bool {
	return slices.ContainsFunc(flat(e), func(l line) bool { return l.part && l.k == 5 && min(l.r.Row, l.r2.Row) == 1 })
}

// namesLast tells whether a tree names anything in the last row.
func namesLast(e api.Exp) bool {
	return slices.ContainsFunc(areas(e), func(area api.Rect) bool { return area.Row2 == 1000 })
}

var referenceForm = regexp.MustCompile(`^(\$?A?[A-Z]\$?)([1-9][0-9]{0,2}|1000)$`)

// cut is a reference as a word, without its row, and its row.
func cut(word string) (string, int) {
	part := referenceForm.FindStringSubmatch(word)
	row := 0
	fmt.Sscan(part[2], &row)
	return part[1], row
}

// wordThen is a reference as a word, or of a range both words, as they should be then.
func wordThen(word, word2 string, d deal) string {
	name, row := cut(word)
	if word2 == "" {
		if row = rowThen(row, d); row == 0 {
			return "#REF!"
		}
		return fmt.Sprint(name, row)
	}
	name2, row2 := cut(word2)
	lo, hi, ok := rangeThen(min(row, row2), max(row, row2), d)
	switch {
	case !ok:
		return "#REF!"
	case row > row2:
		return fmt.Sprint(name, hi, ":", name2, lo)
	}
	return fmt.Sprint(name, lo, ":", name2, hi)
}

// textThen is a formula, rewritten word by word.
func textThen(s string, d deal) string {
	tokens, _, _ := lex.Words(s)
	text := ""
	for i := 0; i+1 < len(tokens); i++ {
		switch {
		case tokens[i].K != api.TokWord || !referenceForm.MatchString(tokens[i].S):
			text += s[tokens[i].At:tokens[i+1].At] + " "
		case tokens[i+1].K == api.TokSign && tokens[i+1].S == ":":
			text += wordThen(tokens[i].S, tokens[i+2].S, d)
			i += 2
		default:
			text += wordThen(tokens[i].S, "", d)
		}
	}
	return text
}

// check holds both calls about one tree at one row against what they should answer: P11.2 to P11.5.
func check(t *testing.T, e api.Exp, at int) {
	t.Helper()
	for _, d := range deals(at) {
		if got := d.tree(e); !slices.Equal(flat(got), then(e, d)) {
			t.Errorf("%+v of %+v: %+v", d, e, got)
		}
	}
	if !parse.Well(e) {
		return
	}
	for _, d := range deals(at) {
		if got := d.tree(e); (d.comes || at > 0 || !beginsAtTop(e)) && !parse.Well(got) {
			t.Errorf("%+v of %+v is not well made: %+v", d, e, got)
		}
	}
	if 1 <= at && at <= api.MaxRows && !namesLast(e) && !alike(Delete(Insert(e, at), at), e) {
		t.Errorf("there and back of %+v at %d: %+v", e, at, Delete(Insert(e, at), at))
	}
}

// checkPlaces holds the places that a tree names against those that it should: P11.3.
func checkPlaces(t *testing.T, e api.Exp, at int) {
	t.Helper()
	for _, d := range deals(at) {
		if !d.comes && at < 1 && beginsAtTop(e) {
			continue
		}
		if got := d.tree(e); *named(got) != *namedThen(e, d) {
			t.Errorf("%+v of %+v names other places: %+v", d, e, got)
		}
	}
}

// maker makes trees by chance, from a beginning that is always the same.
type maker struct{ *rand.Rand }

func newMaker(seed int64) maker { return maker{rand.New(rand.NewSource(seed))} }

// of is one of these words.
func (m maker) of(words string) string {
	list := strings.Fields(words)
	return list[m.Intn(len(list))]
}

// row is one of the sheet's, often near an edge, or near the middle.
func (m maker) row() int {
	switch m.Intn(4) {
	case 0:
		return 1 + m.Intn(3)
	case 1:
		return api.MaxRows - m.Intn(3)
	case 2:
		return 498 + m.Intn(5)
	}
	return 1 + m.Intn(api.MaxRows)
}

// at is where a row may come or go: often where rows are, at times far from the sheet.
func (m maker) at() int {
	switch m.Intn(8) {
	case 0:
		return []int{least, least + 1, -1 << 32, -1000, -1, 0, 1001, 1002, 1 << 16, 1 << 32, 1<<32 + 5, most - 1, most}[m.Intn(13)]
	case 1:
		return int(m.Uint64())
	}
	return m.row()
}

// ref is a reference on the sheet.
func (m maker) ref() api.Ref {
	return api.Ref{Row: m.row(), Col: 1 + m.Intn(api.MaxCols), AbsRow: m.Intn(3) == 0, AbsCol: m.Intn(3) == 0}
}

// leaf is a well made tree without parts.
func (m maker) leaf() api.Exp {
	switch m.Intn(8) {
	case 0:
		return aNum(m.Int63n(1000000))
	case 1:
		return aText(m.of("a A1 $B$2 SUM(A1:B2) #REF!"))
	case 2:
		return aBool(int64(m.Intn(2)))
	case 3:
		return anError(1 + m.Intn(5))
	}
	return aRef(m.ref())
}

// tree is a well made tree of at most so many in one another.
func (m maker) tree(deep int) api.Exp {
	kind := m.Intn(6)
	if deep == 1 {
		kind = 0
	}
	switch kind {
	case 0:
		return m.leaf()
	case 1:
		return aNeg(m.tree(deep - 1))
	case 2, 3:
		return aBin(m.of("= <> < <= > >= & + - * /"), m.tree(deep-1), m.tree(deep-1))
	}
	e := aCall(m.of("SUM COUNT MIN MAX AVERAGE AND OR CONCAT"))
	for range 1 + m.Intn(4) {
		part := m.tree(deep - 1)
		if m.Intn(3) == 0 {
			part = aRange(m.ref(), m.ref())
		}
		e.L = append(e.L, part)
	}
	return e
}

// odd is a tree whose fields that play no part are anything, lists too.
func (m maker) odd(e api.Exp) api.Exp {
	other := api.Exp{K: e.K, N: m.Int63(), S: m.of("A1 $B$2 +"), E: m.at(), R: m.ref(), R2: m.ref()}
	if m.Intn(3) == 0 {
		other.R, other.R2 = api.Ref{Row: m.at(), Col: m.at(), AbsRow: m.Intn(2) == 0}, api.Ref{}
	}
	switch e.K {
	case api.XNum, api.XBool:
		other.N = e.N
	case api.XText:
		other.S = e.S
	case api.XErr:
		other.E = e.E
	case api.XRef:
		other.R = e.R
	case api.XRange:
		other.R, other.R2 = e.R, e.R2
	case api.XNeg, api.XBin, api.XCall:
		other.S = e.S
		for _, part := range e.L {
			other.L = append(other.L, m.odd(part))
		}
		return other
	}
	for range m.Intn(3) {
		other.L = append(other.L, m.any(1+m.Intn(3)))
	}
	return other
}

// any is a tree of any kinds, with anything in all fields.
func (m maker) any(deep int) api.Exp {
	e := api.Exp{K: m.Intn(11) - 1, N: int64(m.at()), S: m.of("A1 + SUM IF"), E: m.Intn(7) - 1, R: m.ref(), R2: m.ref()}
	if m.Intn(2) == 0 {
		e.R.Row, e.R2.Col = m.at(), m.at()
	}
	for range m.Intn(4) {
		if deep > 1 {
			e.L = append(e.L, m.any(deep-1))
		}
	}
	return e
}
