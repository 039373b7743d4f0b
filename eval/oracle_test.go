package eval

import (
	"fmt"
	"math"
	"math/rand/v2"
	"slices"
	"strings"
	"testing"

	"cadastre/api"
	"cadastre/funcs"
	"cadastre/parse"
	"cadastre/value"
)

// What the chapter's words come to, said apart from the package: a board is a paper with all places of the sheet written on it, a tree is laid out as steps, each of which takes what it needs from a pile.

const least = math.MinInt64

// paper has a value at each place; row 0 and column 0 are never written.
type paper [api.MaxRows + 1][api.MaxCols + 1]api.Value

// write is Put.
func (p *paper) write(row, col int, v api.Value) {
	if row >= 1 && row <= 1000 && col >= 1 && col <= 52 {
		p[row][col] = value.Normal(v)
	}
}

// read is Get.
func (p *paper) read(row, col int) api.Value {
	if row < 0 || row > 1000 || col < 0 || col > 52 {
		return api.Value{}
	}
	return p[row][col]
}

// list is All.
func (p *paper) list() []api.Known {
	var out []api.Known
	for row := range p {
		for col, v := range p[row] {
			if v != (api.Value{}) {
				out = append(out, api.Known{Row: row, Col: col, V: v})
			}
		}
	}
	return out
}

// board is a board with all that is on a paper.
func (p *paper) board() *Board {
	b := New()
	for _, k := range p.list() {
		b.Put(k.Row, k.Col, k.V)
	}
	return b
}

// ordered is which orders a sign of comparing asks for.
func ordered() map[string][]int {
	return map[string][]int{"=": {0}, "<>": {-1, 1}, "<": {-1}, "<=": {-1, 0}, ">": {1}, ">=": {0, 1}}
}

// signs are all signs between two.
const signs = "= <> < <= > >= & + - * /"

// both is what a sign makes of two values.
func both(sign string, a, b api.Value) api.Value {
	if orders, is := ordered()[sign]; is {
		order, failed := value.Compare(a, b)
		if failed != (api.Value{}) {
			return failed
		}
		return value.Bool(slices.Contains(orders, order))
	}
	if sign == "&" {
		return value.Join(a, b)
	}
	return value.Arith([]byte(sign)[0], a, b)
}

// step is a tree to be done: its parts ahead of it, or, if these are done, itself.
type step struct {
	e    api.Exp
	done bool
}

// said is what Exp should answer; it does not go down into trees by calls, so that these may be as deep as they like.
func said(e api.Exp, p *paper) api.Value {
	if !parse.Well(e) {
		return value.Err(api.EValue)
	}
	var pile []api.Arg
	for work := []step{{e: e}}; len(work) > 0; {
		next := work[len(work)-1]
		work = work[:len(work)-1]
		count := 0
		if next.e.K >= api.XNeg {
			count = len(next.e.L)
		}
		if !next.done {
			work = append(work, step{next.e, true})
			for i := count - 1; i >= 0; i-- {
				work = append(work, step{e: next.e.L[i]})
			}
			continue
		}
		rest := len(pile) - count
		made := p.made(next.e, slices.Clone(pile[rest:]))
		pile = append(pile[:rest], made)
	}
	return pile[0].L[0]
}

// made is what a tree comes to as an argument, with what its parts came to.
func (p *paper) made(e api.Exp, l []api.Arg) api.Arg {
	var v api.Value
	switch e.K {
	case api.XNum:
		v = api.Value{K: api.Number, N: e.N}
	case api.XText:
		v = api.Value{K: api.Text, S: e.S}
	case api.XBool:
		v = api.Value{K: api.Bool, N: e.N}
	case api.XErr:
		v = api.Value{K: api.Error, E: e.E}
	case api.XRef:
		v = p[e.R.Row][e.R.Col]
	case api.XRange:
		return p.area(e.R, e.R2)
	case api.XNeg:
		v = value.Neg(l[0].L[0])
	case api.XBin:
		v = both(e.S, l[0].L[0], l[1].L[0])
	case api.XCall:
		v = funcs.Call(e.S, l)
	}
	return api.Arg{L: []api.Value{v}}
}

// area cuts a rectangle out of a paper.
func (p *paper) area(r, r2 api.Ref) api.Arg {
	top, bottom, left, right := min(r.Row, r2.Row), max(r.Row, r2.Row), min(r.Col, r2.Col), max(r.Col, r2.Col)
	var list []api.Value
	for _, row := range p[top : bottom+1] {
		list = append(list, row[left:right+1]...)
	}
	return api.Arg{Area: true, Rows: bottom - top + 1, Cols: right - left + 1, L: list}
}

// named are the places that a tree names.
func named(e api.Exp) map[api.Place]bool {
	out := map[api.Place]bool{}
	for work := []api.Exp{e}; len(work) > 0; {
		next := work[len(work)-1]
		work = work[:len(work)-1]
		r, r2 := next.R, next.R
		switch next.K {
		case api.XRange:
			r2 = next.R2
		case api.XRef:
		case api.XNeg, api.XBin, api.XCall:
			work = append(work, next.L...)
			continue
		default:
			continue
		}
		for row := min(r.Row, r2.Row); row <= max(r.Row, r2.Row); row++ {
			for col := min(r.Col, r2.Col); col <= max(r.Col, r2.Col); col++ {
				out[api.Place{Row: row, Col: col}] = true
			}
		}
	}
	return out
}

func aNum(n int64) api.Exp                     { return api.Exp{K: api.XNum, N: n} }
func aText(s string) api.Exp                   { return api.Exp{K: api.XText, S: s} }
func aBool(n int64) api.Exp                    { return api.Exp{K: api.XBool, N: n} }
func anError(e int) api.Exp                    { return api.Exp{K: api.XErr, E: e} }
func aRef(row, col int) api.Exp                { return api.Exp{K: api.XRef, R: api.Ref{Row: row, Col: col}} }
func aNeg(parts ...api.Exp) api.Exp            { return api.Exp{K: api.XNeg, L: parts} }
func aBin(s string, parts ...api.Exp) api.Exp  { return api.Exp{K: api.XBin, S: s, L: parts} }
func aCall(s string, parts ...api.Exp) api.Exp { return api.Exp{K: api.XCall, S: s, L: parts} }
func times(n int, e api.Exp) []api.Exp         { return slices.Repeat([]api.Exp{e}, n) }
func letters(n int) string                     { return strings.Repeat("x", n) }
func aRange(row, col, row2, col2 int) api.Exp {
	return api.Exp{K: api.XRange, R: api.Ref{Row: row, Col: col}, R2: api.Ref{Row: row2, Col: col2}}
}

func brief(x any) string {
	s := fmt.Sprintf("%+v", x)
	if len(s) > 400 {
		s = s[:400] + ".."
	}
	return s
}

// tree is what a formula is read as.
func tree(t *testing.T, s string) api.Exp {
	t.Helper()
	x, at, e := parse.Formula(s)
	if e != api.OK {
		t.Fatalf("%q is no formula: %d, %d", s, at, int(e))
	}
	return x
}

// odd are values that are not as Normal has them.
func odd() []api.Value {
	return []api.Value{
		{N: 4, S: "5", E: 1}, {K: 5, N: 4, S: "5", E: 1}, {K: -1, N: 10000, S: "TRUE"}, {K: math.MaxInt, E: 3}, {K: math.MinInt, N: 1},
		{K: api.Bool, N: 2, S: "FALSE"}, {K: api.Bool, N: -1}, {K: api.Bool, N: least}, {K: api.Bool, S: "TRUE", E: 4},
		{K: api.Number, N: 20000, S: "8", E: 2}, {K: api.Number, N: least}, {K: api.Number, N: least, S: "1", E: 1},
		{K: api.Text, N: 9, S: "3", E: 4}, {K: api.Text, S: letters(301)}, {K: api.Text, S: strings.Repeat("1", 1000), N: 1},
		{K: api.Error}, {K: api.Error, E: 6}, {K: api.Error, E: -1}, {K: api.Error, E: math.MinInt}, {K: api.Error, E: 3, N: 1, S: "1"},
	}
}

// every is values of all kinds, those that are not as Normal has them too.
func every() []api.Value {
	l := odd()
	for _, s := range []string{"", "TRUE", "FALSE", "#REF!", "#VALUE!", "#DIV/0!", "#NUM!", "#CYCLE!", "0", "1", "-1", "2", "0.0001", "-0.0001", "1.5", "10", "30000000", "922337203685477.5807", "-922337203685477.5807", "'", "'0", "'1", "'1.5", "'-2", "' 1", "'a", "'abc", "'A", "'TRUE", "'FALSE", "'true", "'#REF!", "'922337203685477.5808", "'é\x00\xff"} {
		l = append(l, value.Literal(s))
	}
	return append(l, value.Text(letters(150)), value.Text(letters(151)), value.Text(letters(300)))
}

// some is fewer values, one or some of each sort.
func some() []api.Value {
	return append([]api.Value{{}, {K: 7}, {K: api.Bool, N: 2}, {K: api.Number, N: least}, {K: api.Text, S: letters(301)}}, value.Bool(false), value.Num(0), value.Num(20000), value.Num(-15000), value.Text(""), value.Text("2"), value.Text("a"), value.Err(api.EDiv), value.Err(api.ECycle))
}

// chance makes trees and boards by chance, the same in every run.
type chance struct {
	*rand.Rand
}

func byChance(seed uint64) chance { return chance{rand.New(rand.NewPCG(15, seed))} }

// of is one of these words.
func (c chance) of(words string) string {
	list := strings.Fields(words)
	return list[c.IntN(len(list))]
}

// row and col are mostly near the first ones, sometimes the last ones.
func (c chance) row() int {
	if c.IntN(12) == 0 {
		return api.MaxRows - c.IntN(2)
	}
	return 1 + c.IntN(6)
}

func (c chance) col() int {
	if c.IntN(12) == 0 {
		return api.MaxCols - c.IntN(2)
	}
	return 1 + c.IntN(4)
}

// paper is one with values at most of those places that trees by chance name.
func (c chance) paper() *paper {
	p, from := &paper{}, every()
	for range 40 {
		p.write(c.row(), c.col(), from[c.IntN(len(from))])
		// Small numbers make more sums that do not fail.
		p.write(c.row(), c.col(), value.Num(int64(c.IntN(90000)-30000)))
	}
	return p
}

// ref is a reference.
func (c chance) ref() api.Ref {
	return api.Ref{Row: c.row(), Col: c.col(), AbsRow: c.IntN(3) == 0, AbsCol: c.IntN(3) == 0}
}

// leaf is a tree without parts.
func (c chance) leaf() api.Exp {
	switch c.IntN(9) {
	case 0:
		return aNum(c.Int64N(50000))
	case 1:
		return aNum(10000 * c.Int64N(4))
	case 2:
		return aText(c.of(`a abc 1 2.5 TRUE "" #REF! `))
	case 3:
		return aBool(c.Int64N(2))
	case 4:
		return anError(1 + c.IntN(5))
	}
	return api.Exp{K: api.XRef, R: c.ref()}
}

// names are all functions.
const names = "SUM COUNT MIN MAX AVERAGE AND OR CONCAT IF INDEX ROUND MOD IFERROR LEFT NOT ABS FLOOR SQRT LEN ISERROR"

// tree is a well made tree of at most so many in one another.
func (c chance) tree(deep int) api.Exp {
	kind := c.IntN(7)
	if deep == 1 {
		kind = 0
	}
	switch kind {
	case 0:
		return c.leaf()
	case 1:
		return aNeg(c.tree(deep - 1))
	case 2, 3, 4:
		return aBin(c.of(signs), c.tree(deep-1), c.tree(deep-1))
	}
	e := aCall(c.of(names))
	fewest, most, _ := parse.Known(e.S)
	for i := range fewest + c.IntN(min(most, 4)-fewest+1) {
		part := c.tree(deep - 1)
		if most == api.MaxArgs && c.IntN(2) == 0 || e.S == "INDEX" && i == 0 || c.IntN(12) == 0 {
			part = api.Exp{K: api.XRange, R: c.ref(), R2: c.ref()}
			// The whole sheet is asked for now and then.
			if c.IntN(20) > 0 {
				part.R2 = part.R
				part.R2.Row, part.R2.Col = 1+c.IntN(6), 1+c.IntN(4)
				part.R.Row, part.R.Col = 1+c.IntN(6), 1+c.IntN(4)
			}
		}
		e.L = append(e.L, part)
	}
	return e
}
