package rel

import (
	"fmt"
	"math/big"
	"math/rand"
	"regexp"
	"slices"
	"strings"
	"testing"

	"cadastre/api"
	"cadastre/lex"
	"cadastre/parse"
)

// What the chapter's words come to, reckoned apart from the package. A tree is laid out flat: a line for each tree that lies in it, from left to right; whether a line is a part of the formula is told by the kinds of those it lies in. Sums are of numbers without end, cut to 64 bits. Formulas are filled as texts, word by word.

func aNum(n int64) api.Exp                     { return api.Exp{K: api.XNum, N: n} }
func aText(s string) api.Exp                   { return api.Exp{K: api.XText, S: s} }
func aBool(n int64) api.Exp                    { return api.Exp{K: api.XBool, N: n} }
func anError(e int) api.Exp                    { return api.Exp{K: api.XErr, E: e} }
func aRef(r api.Ref) api.Exp                   { return api.Exp{K: api.XRef, R: r} }
func aRange(r, r2 api.Ref) api.Exp             { return api.Exp{K: api.XRange, R: r, R2: r2} }
func aNeg(parts ...api.Exp) api.Exp            { return api.Exp{K: api.XNeg, L: parts} }
func aBin(s string, parts ...api.Exp) api.Exp  { return api.Exp{K: api.XBin, S: s, L: parts} }
func aCall(s string, parts ...api.Exp) api.Exp { return api.Exp{K: api.XCall, S: s, L: parts} }
func at(row, col int) api.Ref                  { return api.Ref{Row: row, Col: col} }
func times(n int, e api.Exp) []api.Exp         { return slices.Repeat([]api.Exp{e}, n) }

var (
	one  = aNum(10000)
	lost = anError(api.ERef)
)

// tree is what a formula is read as.
func tree(t *testing.T, s string) api.Exp {
	t.Helper()
	x, at, e := parse.Formula(s)
	if e != api.OK {
		t.Fatalf("%q is no formula: %d, %d", s, at, int(e))
	}
	return x
}

// line is a tree without its list: the line in whose list it lies, and where there; whether it is a part of the formula.
type line struct {
	under, at int
	part      bool
	k         int
	n         int64
	s         string
	e         int
	r, r2     api.Ref
}

// flat are a tree's lines.
func flat(e api.Exp) []line {
	type todo struct {
		e         api.Exp
		under, at int
		part      bool
	}
	var lines []line
	for work := []todo{{e, -1, 0, true}}; len(work) > 0; {
		next := work[len(work)-1]
		work = work[:len(work)-1]
		e := next.e
		for i := len(e.L) - 1; i >= 0; i-- {
			work = append(work, todo{e.L[i], len(lines), i, next.part && 6 <= e.K && e.K <= 8})
		}
		lines = append(lines, line{next.under, next.at, next.part, e.K, e.N, e.S, e.E, e.R, e.R2})
	}
	return lines
}

// alike tells whether two trees have the same in all fields, those that play no part too.
func alike(a, b api.Exp) bool { return slices.Equal(flat(a), flat(b)) }

// plus is a + sign * b, of which 64 bits are kept.
func plus(a, sign, b int) int {
	sum := new(big.Int).Mul(big.NewInt(int64(sign)), big.NewInt(int64(b)))
	sum.Add(sum, big.NewInt(int64(a)))
	sum.Mod(sum, new(big.Int).Lsh(big.NewInt(1), 64))
	if sum.Bit(63) == 1 {
		sum.Sub(sum, new(big.Int).Lsh(big.NewInt(1), 64))
	}
	return int(sum.Int64())
}

// going is where a reference comes to.
func going(r api.Ref, sign, rows, cols int) api.Ref {
	if !r.AbsRow {
		r.Row = plus(r.Row, sign, rows)
	}
	if !r.AbsCol {
		r.Col = plus(r.Col, sign, cols)
	}
	return r
}

// gone are a tree's lines, in which references have rows and columns added (sign 1) or taken away (-1).
func gone(e api.Exp, sign, rows, cols int) []line {
	lines := flat(e)
	for i, l := range lines {
		if l.part && (l.k == 4 || l.k == 5) {
			lines[i].r = going(l.r, sign, rows, cols)
		}
		if l.part && l.k == 5 {
			lines[i].r2 = going(l.r2, sign, rows, cols)
		}
	}
	return lines
}

// onSheet tells whether a reference is.
func onSheet(r api.Ref) bool { return r.Row >= 1 && r.Row <= 1000 && r.Col >= 1 && r.Col <= 52 }

// leaves tells whether a line is a reference or a range that is not on the sheet.
func leaves(l line) bool {
	return l.part && (l.k == 4 && !onSheet(l.r) || l.k == 5 && !(onSheet(l.r) && onSheet(l.r2)))
}

// filled are the lines that Fill should answer, and whether a reference left the sheet.
func filled(e api.Exp, rows, cols int) ([]line, bool) {
	if !parse.Well(e) {
		return flat(api.Exp{}), false
	}
	var lines []line
	left := false
	now := map[int]int{-1: -1} // where those lines are now that are still there, and have lists
	for i, l := range gone(e, 1, rows, cols) {
		under, ok := now[l.under]
		if !ok {
			continue
		}
		if leaves(l) {
			left = true
			l = line{at: l.at, part: l.part, k: 3, e: 1}
		} else {
			now[i] = len(lines)
		}
		l.under = under
		lines = append(lines, l)
	}
	return lines, left
}

// rects are what Refs should answer.
func rects(e api.Exp) []api.Rect {
	var list []api.Rect
	for _, l := range flat(e) {
		if !l.part || l.k != 4 && l.k != 5 {
			continue
		}
		rows, cols := []int{l.r.Row}, []int{l.r.Col}
		if l.k == 5 {
			rows, cols = append(rows, l.r2.Row), append(cols, l.r2.Col)
		}
		rect := api.Rect{Row: slices.Min(rows), Col: slices.Min(cols), Row2: slices.Max(rows), Col2: slices.Max(cols)}
		if leaves(l) {
			rect = api.Rect{}
		}
		list = append(list, rect)
	}
	return list
}

var referenceForm = regexp.MustCompile(`^(\$?)(A?[A-Z])(\$?)([1-9][0-9]{0,2}|1000)$`)

// filledWord is a reference as a word, filled; false, if it left the sheet.
func filledWord(word string, rows, cols int) (string, bool) {
	part := referenceForm.FindStringSubmatch(word)
	row, col := 0, 0
	fmt.Sscan(part[4], &row)
	for _, letter := range part[2] {
		col = 26*col + int(letter-'@')
	}
	if part[1] == "" {
		col += cols
	}
	if part[3] == "" {
		row += rows
	}
	if row < 1 || row > 1000 || col < 1 || col > 52 {
		return "", false
	}
	name := string(rune('A' + (col-1)%26))
	if col > 26 {
		name = "A" + name
	}
	return fmt.Sprintf("%s%s%s%d", part[1], name, part[3], row), true
}

// filledText is a formula, filled word by word.
func filledText(s string, rows, cols int) string {
	tokens, _, _ := lex.Words(s)
	isRef := func(i int) bool { return tokens[i].K == api.TokWord && referenceForm.MatchString(tokens[i].S) }
	text := ""
	for i := 0; i+1 < len(tokens); i++ {
		if !isRef(i) {
			text += s[tokens[i].At:tokens[i+1].At] + " "
			continue
		}
		word, ok := filledWord(tokens[i].S, rows, cols)
		if tokens[i+1].K == api.TokSign && tokens[i+1].S == ":" {
			word2, ok2 := filledWord(tokens[i+2].S, rows, cols)
			word, ok = word+":"+word2, ok && ok2
			i += 2
		}
		if !ok {
			word = "#REF!"
		}
		text += word
	}
	return text
}

// check holds all calls about one tree against what they should answer: P10.1 to P10.6.
func check(t *testing.T, e api.Exp, row, col int) {
	t.Helper()
	form, back, fill := Form(e, row, col), Back(e, row, col), Fill(e, row, col)
	if !slices.Equal(flat(form), gone(e, -1, row, col)) {
		t.Errorf("Form of %+v at %d, %d: %+v", e, row, col, form)
	}
	if !slices.Equal(flat(back), gone(e, 1, row, col)) {
		t.Errorf("Back of %+v at %d, %d: %+v", e, row, col, back)
	}
	if !alike(Back(form, row, col), e) || !alike(Form(back, row, col), e) {
		t.Errorf("there and back of %+v at %d, %d", e, row, col)
	}
	want, left := filled(e, row, col)
	if !slices.Equal(flat(fill), want) {
		t.Errorf("Fill of %+v by %d, %d: %+v", e, row, col, fill)
	}
	if got := Refs(e); !slices.Equal(got, rects(e)) {
		t.Errorf("Refs of %+v: %v, not %v", e, got, rects(e))
	}
	if !parse.Well(e) {
		return
	}
	if !parse.Well(fill) {
		t.Errorf("Fill of %+v by %d, %d is not well made: %+v", e, row, col, fill)
	}
	for _, p := range []api.Place{{}, {Row: 1, Col: 1}, {Row: 1000, Col: 52}, {Row: -row, Col: col}, {Row: 77, Col: -1 << 63}} {
		if Alike(fill, p.Row+row, p.Col+col, e, p.Row, p.Col) == left || Alike(e, p.Row, p.Col, fill, p.Row+row, p.Col+col) == left {
			t.Errorf("Fill of %+v by %d, %d: %+v is alike just if none left the sheet: %t", e, row, col, fill, left)
		}
	}
}

// maker makes trees by chance, from a beginning that is always the same.
type maker struct{ *rand.Rand }

// of is one of these words.
func (m maker) of(words string) string {
	list := strings.Fields(words)
	return list[m.Intn(len(list))]
}

// ref is a reference on the sheet, often near an edge.
func (m maker) ref() api.Ref {
	r := api.Ref{Row: 1 + m.Intn(api.MaxRows), Col: 1 + m.Intn(api.MaxCols), AbsRow: m.Intn(3) == 0, AbsCol: m.Intn(3) == 0}
	switch m.Intn(4) {
	case 0:
		r.Row = 1 + m.Intn(3)
	case 1:
		r.Row = api.MaxRows - m.Intn(3)
	case 2:
		r.Col = []int{1, 2, api.MaxCols - 1, api.MaxCols}[m.Intn(4)]
	}
	return r
}

// leaf is a well made tree without parts.
func (m maker) leaf() api.Exp {
	switch m.Intn(8) {
	case 0:
		return aNum(m.Int63n(1000000))
	case 1:
		return aText(m.of("a A1 $B$2 SUM(A1:B2) #REF!"))
	case 2:
		return aBool(int64(m.Intn(2)))
	case 3:
		return anError(1 + m.Intn(5))
	}
	return aRef(m.ref())
}

// tree is a well made tree of at most so many in one another.
func (m maker) tree(deep int) api.Exp {
	kind := m.Intn(6)
	if deep == 1 {
		kind = 0
	}
	switch kind {
	case 0:
		return m.leaf()
	case 1:
		return aNeg(m.tree(deep - 1))
	case 2, 3:
		return aBin(m.of("= <> < <= > >= & + - * /"), m.tree(deep-1), m.tree(deep-1))
	}
	e := aCall(m.of("SUM COUNT MIN MAX AVERAGE AND OR CONCAT"))
	for range 1 + m.Intn(4) {
		part := m.tree(deep - 1)
		if m.Intn(3) == 0 {
			part = aRange(m.ref(), m.ref())
		}
		e.L = append(e.L, part)
	}
	return e
}

// number is an int, often a great one.
func (m maker) number() int {
	const least, most = -1 << 63, 1<<63 - 1
	switch m.Intn(3) {
	case 0:
		return []int{least, least + 1, most, most - 1, least + 1000, 1 << 62, -1 << 62, 1 << 32, 1 << 31, -1 << 32, 1 << 16, 1 << 8}[m.Intn(12)]
	case 1:
		return int(m.Uint64())
	}
	return m.Intn(7) - 3
}

// odd is a tree whose fields that play no part are anything, lists too.
func (m maker) odd(e api.Exp) api.Exp {
	other := api.Exp{K: e.K, N: m.Int63(), S: m.of("A1 $B$2 +"), E: m.number(), R: m.ref(), R2: m.ref()}
	if m.Intn(3) == 0 {
		other.R = api.Ref{Row: m.number(), Col: m.number(), AbsRow: m.Intn(2) == 0}
	}
	switch e.K {
	case api.XNum, api.XBool:
		other.N = e.N
	case api.XText:
		other.S = e.S
	case api.XErr:
		other.E = e.E
	case api.XRef:
		other.R = e.R
	case api.XRange:
		other.R, other.R2 = e.R, e.R2
	case api.XNeg, api.XBin, api.XCall:
		other.S = e.S
		for _, part := range e.L {
			other.L = append(other.L, m.odd(part))
		}
		return other
	}
	for range m.Intn(3) {
		other.L = append(other.L, m.any(1+m.Intn(3)))
	}
	return other
}

// any is a tree of any kinds, with anything in all fields.
func (m maker) any(deep int) api.Exp {
	e := api.Exp{K: m.Intn(11) - 1, N: int64(m.number()), S: m.of("A1 + SUM IF"), E: m.Intn(7) - 1, R: m.ref(), R2: m.ref()}
	if m.Intn(2) == 0 {
		e.R.Row, e.R2.Col = m.number(), m.number()
	}
	for range m.Intn(4) {
		if deep > 1 {
			e.L = append(e.L, m.any(deep-1))
		}
	}
	return e
}
