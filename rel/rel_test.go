package rel

import (
	"fmt"
	"math"
	"math/rand"
	"slices"
	"strings"
	"testing"

	"cadastre/api"
	"cadastre/parse"
	"cadastre/print"
)

const (
	least = math.MinInt
	most  = math.MaxInt
)

// The chapter's example.
func TestExample(t *testing.T) {
	for rows, want := range map[int]string{1: "A2+$B$2", -1: "#REF!+$B$2"} {
		if s, e := print.Formula(Fill(tree(t, "A1+$B$2"), rows, 0)); s != want || e != api.OK {
			t.Errorf("A1+$B$2, filled %d down: %s, not %s", rows, s, want)
		}
	}
}

// ways are a reference in the four ways in which it is absolute or not.
func ways(row, col int) []api.Ref {
	return []api.Ref{{Row: row, Col: col}, {Row: row, Col: col, AbsRow: true}, {Row: row, Col: col, AbsCol: true}, {Row: row, Col: col, AbsRow: true, AbsCol: true}}
}

// P10.1: each way in which a reference is absolute or not, by hand.
func TestFormByHand(t *testing.T) {
	want := []api.Ref{{Row: -5, Col: -17}, {Row: 5, Col: -17, AbsRow: true}, {Row: -5, Col: 3, AbsCol: true}, {Row: 5, Col: 3, AbsRow: true, AbsCol: true}}
	wantBack := []api.Ref{{Row: 15, Col: 23}, {Row: 5, Col: 23, AbsRow: true}, {Row: 15, Col: 3, AbsCol: true}, {Row: 5, Col: 3, AbsRow: true, AbsCol: true}}
	for i, r := range ways(5, 3) {
		for _, c := range []struct {
			got  api.Exp
			want api.Ref
		}{{Form(aRef(r), 10, 20), want[i]}, {Back(aRef(r), 10, 20), wantBack[i]}, {Form(aRef(r), -10, -20), wantBack[i]}, {Back(aRef(r), -10, -20), want[i]}, {Form(aRef(r), 0, 0), r}, {Back(aRef(r), 0, 0), r}} {
			if !alike(c.got, aRef(c.want)) {
				t.Errorf("%+v: %+v, not %+v", r, c.got, c.want)
			}
		}
		// A range's two ends, each by itself.
		for j, r2 := range ways(5, 3) {
			if e := Form(aRange(r, r2), 10, 20); !alike(e, aRange(want[i], want[j])) {
				t.Errorf("Form of the range from %+v to %+v: %+v", r, r2, e)
			}
			if e := Back(aRange(r, r2), 10, 20); !alike(e, aRange(wantBack[i], wantBack[j])) {
				t.Errorf("Back of the range from %+v to %+v: %+v", r, r2, e)
			}
		}
	}
	if e, want := Form(tree(t, "-A1+SUM($B$2,C3:D$4,1)"), 2, 3), aBin("+", aNeg(aRef(at(-1, -2))), aCall("SUM", aRef(api.Ref{Row: 2, Col: 2, AbsRow: true, AbsCol: true}), aRange(at(1, 0), api.Ref{Row: 4, Col: 1, AbsRow: true}), one)); !alike(e, want) {
		t.Errorf("%+v, not %+v", e, want)
	}
}

// P10.1: differences and sums go around.
func TestAround(t *testing.T) {
	for _, c := range []struct{ row, less, form, back int }{
		{0, least, least, least}, {1, least, least + 1, least + 1}, {-1, least, most, most}, {least, least, 0, 0}, {most, least, -1, -1}, {least, 1, most, least + 1}, {most, 1, most - 1, least}, {most, -1, least, most - 1}, {least, most, 1, -1}, {most, most, 0, -2}, {0, most, least + 1, most}, {-2, most, most, most - 2}, {1 << 62, 1 << 62, 0, least},
	} {
		for _, r := range ways(c.row, c.row) {
			form, back := at(c.form, c.form), at(c.back, c.back)
			if r.AbsRow {
				form.Row, back.Row = c.row, c.row
			}
			if r.AbsCol {
				form.Col, back.Col = c.row, c.row
			}
			form.AbsRow, form.AbsCol, back.AbsRow, back.AbsCol = r.AbsRow, r.AbsCol, r.AbsRow, r.AbsCol
			for _, wrap := range []func(r api.Ref) api.Exp{aRef, func(r api.Ref) api.Exp { return aRange(r, r) }, func(r api.Ref) api.Exp { return aRange(r, api.Ref{AbsRow: true, AbsCol: true}) }, func(r api.Ref) api.Exp { return aRange(api.Ref{AbsRow: true, AbsCol: true}, r) }, func(r api.Ref) api.Exp { return aCall("FOO", aNeg(aRef(r), aRef(r))) }} {
				if e := Form(wrap(r), c.less, c.less); !alike(e, wrap(form)) {
					t.Errorf("Form of %+v at %d: %+v", r, c.less, e)
				}
				if e := Back(wrap(r), c.less, c.less); !alike(e, wrap(back)) {
					t.Errorf("Back of %+v at %d: %+v", r, c.less, e)
				}
				check(t, wrap(r), c.less, c.less)
			}
		}
	}
}

// inert are trees without references, whatever lies in fields that play no part.
func inert() []api.Exp {
	r, r2 := at(3, 4), at(least, most)
	inner := []api.Exp{aRef(r), aNeg(aRange(r, r2)), aCall("SUM", aRef(r2), aBin("+", aRef(r), aRef(r))), {K: 9, R: r}}
	var list []api.Exp
	for _, k := range []int{api.XNum, api.XText, api.XBool, api.XErr, -1, 9, 10, 77, least, most, -2, 4 + 256, 5 - 1<<32} {
		list = append(list, api.Exp{K: k}, api.Exp{K: k, N: 1, S: "A1", E: 2, R: r, R2: r2, L: inner}, api.Exp{K: k, L: []api.Exp{aRef(r)}})
	}
	return append(list, aNeg(), aBin("+"), aCall("SUM"), api.Exp{K: api.XNeg, N: 1, S: "A1", E: 1, R: r, R2: r2}, api.Exp{K: api.XBin, S: "+", R: r, R2: r2, L: []api.Exp{one, one}}, api.Exp{K: api.XCall, S: "SUM", R: r, R2: r2, L: []api.Exp{{K: 9, L: inner}}})
}

// P10.1, P10.3: other fields, trees of kinds that are none, and lists of kinds without parts stay as they are, and name nothing.
func TestOtherFields(t *testing.T) {
	for _, e := range inert() {
		for _, whole := range []api.Exp{e, aNeg(e), aNeg(e, e, e), aBin("+", e, e), aCall("SUM", e, e)} {
			for _, p := range []api.Place{{Row: 1, Col: 2}, {Row: -7}, {Col: 9}, {Row: least, Col: most}} {
				if !alike(Form(whole, p.Row, p.Col), whole) || !alike(Back(whole, p.Row, p.Col), whole) {
					t.Errorf("%+v is changed", whole)
				}
				check(t, whole, p.Row, p.Col)
			}
			if list := Refs(whole); len(list) > 0 {
				t.Errorf("Refs of %+v: %v", whole, list)
			}
		}
	}
	// Of references and ranges: what is not theirs.
	inner := []api.Exp{aRef(at(3, 4)), aNeg(aRef(at(3, 4)))}
	ref := api.Exp{K: api.XRef, N: 5, S: "A1", E: 3, R: at(1, 1), R2: at(8, 8), L: inner}
	want := ref
	want.R = at(3, 4)
	if e := Form(ref, -2, -3); !alike(e, want) {
		t.Errorf("Form of %+v: %+v", ref, e)
	}
	if e := Back(ref, 2, 3); !alike(e, want) {
		t.Errorf("Back of %+v: %+v", ref, e)
	}
	if e := Fill(ref, 2, 3); !alike(e, want) {
		t.Errorf("Fill of %+v: %+v", ref, e)
	}
	range1 := ref
	range1.K = api.XRange
	want = range1
	want.R, want.R2 = at(3, 4), at(10, 11)
	if e := Back(range1, 2, 3); !alike(e, want) {
		t.Errorf("Back of %+v: %+v", range1, e)
	}
	if e := Fill(aCall("SUM", range1), 2, 3); !alike(e, aCall("SUM", want)) {
		t.Errorf("Fill of %+v: %+v", range1, e)
	}
	for _, e := range []api.Exp{ref, range1} {
		if list := Refs(e); len(list) != 1 {
			t.Errorf("Refs of %+v: %v", e, list)
		}
	}
	// Of one that leaves the sheet nothing is left but the error.
	if e := Fill(aCall("SUM", ref, range1), -1, 0); !alike(e, aCall("SUM", lost, lost)) {
		t.Errorf("Fill off the sheet: %+v", e)
	}
}

// P10.2: pairs that are alike at their places, and pairs that are not.
func TestAlikeByHand(t *testing.T) {
	for _, c := range []struct {
		a      string
		at     api.Ref
		b      string
		at2    api.Ref
		isSame bool
	}{
		{"A1", at(1, 1), "A1", at(1, 1), true}, {"A1", at(1, 1), "B2", at(2, 2), true}, {"A1", at(1, 1), "B2", at(2, 1), false}, {"A1", at(1, 1), "B2", at(1, 2), false}, {"A1", at(1, 1), "A1", at(2, 1), false}, {"A1", at(1, 1), "A1", at(1, 2), false}, {"A1", at(5, 5), "C3", at(7, 7), true},
		{"$A$1", at(1, 1), "$A$1", at(9, 9), true}, {"$A$1", at(1, 1), "$A$2", at(2, 1), false}, {"$A1", at(1, 1), "$A2", at(2, 7), true}, {"$A1", at(1, 1), "$A1", at(2, 7), false}, {"A$1", at(1, 1), "B$1", at(7, 2), true}, {"A$1", at(1, 1), "B$2", at(2, 2), false}, {"A1", at(1, 1), "$A$1", at(1, 1), false}, {"A1", at(0, 0), "$A$1", at(0, 0), false}, {"$A1", at(0, 0), "A$1", at(0, 0), false}, {"A1", at(0, 0), "A$1", at(0, 0), false}, {"A1", at(0, 0), "$A1", at(0, 0), false},
		{"SUM(A1:B2)", at(1, 1), "SUM(A2:B3)", at(2, 1), true}, {"SUM(A$1:B2)", at(2, 3), "SUM(A$1:B3)", at(3, 3), true}, {"SUM(A$1:B2)", at(2, 3), "SUM(A$1:B2)", at(3, 3), false}, {"SUM(A1:B2)", at(1, 1), "SUM(B2:A1)", at(1, 1), false}, {"SUM(A1:B$2)", at(1, 1), "SUM(A2:B$2)", at(2, 1), true}, {"SUM(A1:A1)", at(1, 1), "SUM(A1)", at(1, 1), false},
		{"A1+1", at(1, 2), "A2+1", at(2, 2), true}, {"A1+1", at(1, 2), "A2+2", at(2, 2), false}, {"A1+1", at(1, 2), "A2-1", at(2, 2), false}, {"-A1", at(1, 2), "-A9", at(9, 2), true}, {"-A1", at(1, 2), "A9", at(9, 2), false}, {"1", at(1, 1), "1", at(7, 7), true}, {"1", at(1, 1), "2", at(1, 1), false}, {`"A1"`, at(1, 1), `"A1"`, at(2, 1), true}, {`"A1"`, at(1, 1), `"A2"`, at(2, 1), false}, {"TRUE", at(1, 1), "1", at(1, 1), false}, {"#REF!", at(1, 1), "#REF!", at(5, 1), true}, {"#REF!", at(1, 1), "#NUM!", at(1, 1), false}, {"SUM(1)", at(1, 1), "MIN(1)", at(1, 1), false}, {"SUM(A1,2)", at(1, 1), "SUM(A1,2,3)", at(1, 1), false},
		{"A1", at(most, 1), "A2", at(least, 1), true}, {"A1", at(least, most), "A1", at(least, most), true},
	} {
		a, b := tree(t, c.a), tree(t, c.b)
		if Alike(a, c.at.Row, c.at.Col, b, c.at2.Row, c.at2.Col) != c.isSame || Alike(b, c.at2.Row, c.at2.Col, a, c.at.Row, c.at.Col) != c.isSame {
			t.Errorf("Alike of %s at %v and %s at %v is not %t", c.a, c.at, c.b, c.at2, c.isSame)
		}
	}
	// Fields that play no part, as parse.Same has it.
	if !Alike(api.Exp{N: 1, R: at(1, 1), L: []api.Exp{one}}, 1, 1, api.Exp{N: 1, R: at(7, 1)}, 1, 1) || !Alike(api.Exp{K: 9, N: 1, L: []api.Exp{one}}, 1, 1, api.Exp{K: 9, N: 2}, 2, 2) || Alike(api.Exp{K: 9}, 1, 1, api.Exp{K: 10}, 1, 1) {
		t.Error("fields that play no part")
	}
}

// P10.2: Alike of trees and places by chance, of which many are alike.
func TestAlikeMade(t *testing.T) {
	m := maker{rand.New(rand.NewSource(11))}
	count := map[bool]int{}
	for range 20000 {
		a, b := m.any(1+m.Intn(3)), m.any(1)
		row, col, row2, col2 := m.number(), m.number(), m.number(), m.number()
		switch m.Intn(4) {
		case 0:
			b = Back(Form(a, row, col), row2, col2)
		case 1:
			a = m.tree(3)
			b, row2, col2 = Fill(a, m.Intn(5)-2, m.Intn(5)-2), row, col
		case 2:
			a, b = aRef(m.ref()), aRef(m.ref())
			row2, col2 = row+b.R.Row-a.R.Row, col+b.R.Col-a.R.Col
		}
		want := parse.Same(built(gone(a, -1, row, col)), built(gone(b, -1, row2, col2)))
		if Alike(a, row, col, b, row2, col2) != want {
			t.Errorf("Alike of %+v at %d, %d and %+v at %d, %d is not %t", a, row, col, b, row2, col2, want)
		}
		count[want]++
	}
	if count[true] < 4000 || count[false] < 4000 {
		t.Errorf("alike and not: %v", count)
	}
}

// built is the tree of lines.
func built(lines []line) api.Exp {
	trees := make([]api.Exp, len(lines))
	for i := len(lines) - 1; i >= 0; i-- {
		l := lines[i]
		list := trees[i].L
		slices.Reverse(list)
		trees[i] = api.Exp{K: l.k, N: l.n, S: l.s, E: l.e, R: l.r, R2: l.r2, L: list}
		if l.under >= 0 {
			trees[l.under].L = append(trees[l.under].L, trees[i])
		}
	}
	return trees[0]
}

// P10.3: by hand: ends in any order, in one row, column or place; off the sheet; from left to right.
func TestRefsByHand(t *testing.T) {
	area := func(row, col, row2, col2 int) api.Rect { return api.Rect{Row: row, Col: col, Row2: row2, Col2: col2} }
	for s, want := range map[string][]api.Rect{
		"1": nil, `"A1"`: nil, "TRUE&#REF!": nil, "SUM(1,-2)": nil, "A1": {area(1, 1, 1, 1)}, "-$AZ$1000": {area(1000, 52, 1000, 52)},
		"A1+SUM(C3:B2,1)": {area(1, 1, 1, 1), area(2, 2, 3, 3)}, "SUM(B2:C3)": {area(2, 2, 3, 3)}, "SUM(C2:B3)": {area(2, 2, 3, 3)}, "SUM(B3:C2)": {area(2, 2, 3, 3)}, "SUM($C$3:$B2)": {area(2, 2, 3, 3)}, "SUM(A1:A1)": {area(1, 1, 1, 1)}, "SUM(A9:A1)": {area(1, 1, 9, 1)}, "SUM(Z1:A1)": {area(1, 1, 1, 26)}, "SUM(AZ1000:A1)": {area(1, 1, 1000, 52)},
		"A1+B1*C1-D1": {area(1, 1, 1, 1), area(1, 2, 1, 2), area(1, 3, 1, 3), area(1, 4, 1, 4)}, "A4-(A3-(A2-A1))": {area(4, 1, 4, 1), area(3, 1, 3, 1), area(2, 1, 2, 1), area(1, 1, 1, 1)}, "A1+A1+A1": {area(1, 1, 1, 1), area(1, 1, 1, 1), area(1, 1, 1, 1)},
		"IF(A3,SUM(B1:B2,A2),-A1)": {area(3, 1, 3, 1), area(1, 2, 2, 2), area(2, 1, 2, 1), area(1, 1, 1, 1)}, "SUM(A1,SUM(A2,SUM(A3)),A4)": {area(1, 1, 1, 1), area(2, 1, 2, 1), area(3, 1, 3, 1), area(4, 1, 4, 1)},
	} {
		if got := Refs(tree(t, s)); !slices.Equal(got, want) {
			t.Errorf("Refs of %s: %v, not %v", s, got, want)
		}
	}
	in := at(2, 2)
	for _, off := range []api.Ref{{}, at(0, 1), at(1, 0), at(1001, 1), at(1, 53), at(-1, -1), at(least, most), at(1+1<<32, 1)} {
		for _, e := range []api.Exp{aRef(off), aRange(off, in), aRange(in, off), aRange(off, off)} {
			if got := Refs(e); !slices.Equal(got, []api.Rect{{}}) {
				t.Errorf("Refs of %+v: %v", e, got)
			}
			if got := Refs(aBin("?", aRef(in), e, aNeg(aRange(in, in)))); !slices.Equal(got, []api.Rect{area(2, 2, 2, 2), {}, area(2, 2, 2, 2)}) {
				t.Errorf("Refs with %+v between: %v", e, got)
			}
		}
	}
	// A range that is no argument is one, too.
	if got := Refs(aRange(at(3, 3), in)); !slices.Equal(got, []api.Rect{area(2, 2, 3, 3)}) {
		t.Errorf("Refs of a range alone: %v", got)
	}
}

// P10.1 to P10.6: trees made by chance: well made, with anything in other fields, and of any kinds.
func TestMadeTrees(t *testing.T) {
	m := maker{rand.New(rand.NewSource(10))}
	for range 6000 {
		e := m.tree(1 + m.Intn(5))
		for _, e := range []api.Exp{e, m.odd(e), m.any(1 + m.Intn(4))} {
			check(t, e, m.number(), m.number())
			check(t, e, m.Intn(9)-4, m.Intn(9)-4)
		}
	}
}

// wraps put a tree into another one, one deeper.
var wraps = []func(e api.Exp) api.Exp{
	func(e api.Exp) api.Exp { return aNeg(e) },
	func(e api.Exp) api.Exp { return aBin("-", e, aRef(at(1, 1))) },
	func(e api.Exp) api.Exp { return aBin("-", aRef(at(1, 1)), e) },
	func(e api.Exp) api.Exp { return aCall("IF", one, e, aRef(at(1, 1))) },
	func(e api.Exp) api.Exp { return aCall("FOO", e) },
	func(e api.Exp) api.Exp { return api.Exp{K: api.XRef, R: at(1, 1), L: []api.Exp{e}} },
}

// P10.1 to P10.6: trees of 65536 in one another, and wide ones.
func TestGreat(t *testing.T) {
	for i, wrap := range wraps {
		e := aRef(at(2, 2))
		for range 1<<16 - 1 {
			e = wrap(e)
		}
		form, back := Form(e, 3, 4), Back(e, 3, 4)
		if !slices.Equal(flat(form), gone(e, -1, 3, 4)) || !slices.Equal(flat(back), gone(e, 1, 3, 4)) || !alike(Back(form, 3, 4), e) {
			t.Errorf("%d: there and back of a deep tree", i)
		}
		for _, rows := range []int{1, -1, 999} {
			fill := Fill(e, rows, 0)
			want, left := filled(e, rows, 0)
			if !slices.Equal(flat(fill), want) || parse.Well(e) && (!parse.Well(fill) || Alike(fill, rows, 0, e, 0, 0) == left) {
				t.Errorf("%d: a deep tree filled by %d", i, rows)
			}
		}
		if !slices.Equal(Refs(e), rects(e)) {
			t.Errorf("%d: Refs of a deep tree", i)
		}
	}
	wide := aCall("SUM", times(1<<16, aRef(at(2, 2)))...)
	if list := Refs(wide); len(list) != 1<<16 || !slices.Equal(list, rects(wide)) {
		t.Errorf("%d places of a wide tree", len(list))
	}
	if !slices.Equal(flat(Form(wide, 1, 1)), gone(wide, -1, 1, 1)) || !alike(Fill(wide, 1, 1), api.Exp{}) {
		t.Error("a wide tree")
	}
}

// lists are all lists of a tree that have any room.
func lists(e api.Exp) [][]api.Exp {
	var all [][]api.Exp
	if cap(e.L) > 0 {
		all = append(all, e.L)
	}
	for _, part := range e.L {
		all = append(all, lists(part)...)
	}
	return all
}

// mark writes a number over all of a list, its spare room too.
func mark(list []api.Exp, n int) {
	list = list[:cap(list)]
	for i := range list {
		list[i].E = n
	}
}

// isMarked tells whether that number stands all over it.
func isMarked(list []api.Exp, n int) bool {
	return !slices.ContainsFunc(list[:cap(list)], func(e api.Exp) bool { return e.E != n })
}

// roomy is a tree whose lists are parts of one another, some in spare room, well made or not.
func roomy(m maker, well bool) api.Exp {
	shared := make([]api.Exp, 0, 9)
	for range 9 {
		shared = append(shared, m.odd(m.tree(3)))
	}
	parts := []api.Exp{aCall("SUM", shared[:3]...), aCall("MAX", shared[:3:3]...), aCall("MIN", shared[1:5:7]...), aNeg(shared[2:3]...), {K: api.XNum, L: shared[:4]}, {K: api.XRef, R: at(50, 20), L: shared[3:6]}, {K: api.XText, L: shared[:0]}}
	if !well {
		parts = append(parts, api.Exp{K: 9, L: shared}, aNeg(shared...))
	}
	return aCall("SUM", parts...)
}

// Memory: what is handed in is not changed, and answers share no memory with it, nor with one another, nor within themselves.
func TestMemory(t *testing.T) {
	m := maker{rand.New(rand.NewSource(12))}
	for i := range 400 {
		e := roomy(m, i%2 == 0)
		given := lists(e)
		var before [][]api.Exp
		for _, list := range given {
			before = append(before, slices.Clone(list[:cap(list)]))
		}
		answers := []api.Exp{Form(e, 1, 2), Form(e, 1, 2), Form(e, 0, 0), Back(e, 1, 2), Back(e, 0, 0), Fill(e, 1, 2), Fill(e, 1, 2), Fill(e, 0, 0), Fill(e, 2000, 0)}
		Alike(e, 1, 2, e, 1, 2)
		Refs(e)
		for j, list := range given {
			if !slices.EqualFunc(list[:cap(list)], before[j], alike) {
				t.Fatal("what was handed in is changed")
			}
		}
		var made [][]api.Exp
		for _, answer := range answers {
			made = append(made, lists(answer)...)
		}
		if len(made) < 4*len(given) {
			t.Fatalf("%d lists of %d", len(made), len(given))
		}
		for _, list := range given {
			mark(list, -1)
		}
		for j, list := range made {
			mark(list, j)
		}
		for _, list := range given {
			if !isMarked(list, -1) {
				t.Fatal("an answer shares memory with what was handed in")
			}
		}
		for j, list := range made {
			if !isMarked(list, j) {
				t.Fatal("two lists of answers share memory")
			}
		}
	}
}

// Memory: what Refs answers is its own each time; nil and empty lists are alike.
func TestLists(t *testing.T) {
	e := tree(t, "A1+A2+A3")
	a, b := Refs(e), Refs(e)
	a = a[:cap(a)]
	for i := range a {
		a[i].Row = 77
	}
	if !slices.Equal(b, rects(e)) || !slices.Equal(Refs(e), b) {
		t.Error("what Refs answers is not its own")
	}
	for _, k := range []int{api.XNum, api.XRef, api.XNeg, api.XBin, api.XCall, 9} {
		with, without := api.Exp{K: k, R: at(1, 1), L: []api.Exp{}}, api.Exp{K: k, R: at(1, 1)}
		if !alike(Form(with, 1, 1), Form(without, 1, 1)) || !alike(Back(with, 1, 1), Back(without, 1, 1)) || !alike(Fill(with, 1, 1), Fill(without, 1, 1)) || !Alike(with, 1, 1, without, 1, 1) || !slices.Equal(Refs(with), Refs(without)) {
			t.Errorf("an empty list of kind %d", k)
		}
	}
}

// Answers hang on arguments alone: each call answers the same again, whatever came between.
func TestAgain(t *testing.T) {
	m := maker{rand.New(rand.NewSource(13))}
	told := func(e api.Exp) string {
		return fmt.Sprint(flat(Form(e, 2, 3)), flat(Back(e, 2, 3)), flat(Fill(e, 2, 3)), Refs(e), Alike(e, 2, 3, e, 2, 3))
	}
	var trees []api.Exp
	var first []string
	for range 300 {
		e := m.odd(m.tree(3))
		trees, first = append(trees, e), append(first, told(e))
	}
	for i := len(trees) - 1; i >= 0; i-- {
		if told(trees[i]) != first[i] || !strings.HasSuffix(first[i], "true") {
			t.Errorf("another answer of %+v", trees[i])
		}
	}
}
