package eval

import (
	"reflect"
	"slices"
	"strings"
	"testing"

	"cadastre/api"
	"cadastre/coord"
	"cadastre/num"
	"cadastre/parse"
	"cadastre/print"
	"cadastre/value"
)

// P15.4: boards that differ only in places that are not named.
func TestNamed(t *testing.T) {
	c, from := byChance(5), every()
	for range 100 {
		p := c.paper()
		b := p.board()
		for range 20 {
			e := c.tree(1 + c.IntN(4))
			places := named(e)
			other := New()
			for place := range places {
				other.Put(place.Row, place.Col, p.read(place.Row, place.Col))
			}
			bare := Exp(e, other)
			for range 60 {
				if at := (api.Place{Row: c.row(), Col: c.col()}); !places[at] {
					other.Put(at.Row, at.Col, from[c.IntN(len(from))])
				}
			}
			if got := Exp(e, b); got != bare || got != Exp(e, other) || Formula(e, b) != Formula(e, other) {
				t.Fatalf("%s: %s, %s without other places, %s with others there", brief(e), brief(got), brief(bare), brief(Exp(e, other)))
			}
		}
	}
}

// P15.4: places just beside a range, or beside a reference, play no part.
func TestBesideNamed(t *testing.T) {
	b, about := New(), []int{4, 5, 6, 7, 8}
	for _, row := range about[1:4] {
		for _, col := range about[1:4] {
			b.Put(row, col, value.Num(int64(10000*(row+col))))
		}
	}
	for _, s := range []string{"SUM(E5:G7)", "CONCAT(G7:E5)", "COUNT(G5:E7)", "INDEX(E7:G5,1,3)", "INDEX(E5:G7,4)", "INDEX(E5:G7,1,4)", "INDEX(E5:G7,0)", "E5+G7", "-$E$5", `"H8"&5`, "F6", "IF(TRUE,F6,F7)"} {
		e := tree(t, s)
		want, places := Exp(e, b), named(e)
		for _, row := range about {
			for _, col := range about {
				if places[api.Place{Row: row, Col: col}] {
					continue
				}
				before := b.Get(row, col)
				for _, v := range some() {
					b.Put(row, col, v)
					if got := Exp(e, b); got != want {
						t.Errorf("%s, with %s at %d, %d: %s, not %s", s, brief(v), row, col, brief(got), brief(want))
					}
				}
				b.Put(row, col, before)
			}
		}
	}
}

// P15.4: nor does it play a part how a board came to have its values.
func TestHowItCame(t *testing.T) {
	c, from := byChance(6), every()
	for range 30 {
		p := c.paper()
		b, other := p.board(), New()
		list := p.list()
		for _, k := range list {
			other.Put(k.Row, k.Col, from[c.IntN(len(from))])
			other.Put(c.row(), c.col(), from[c.IntN(len(from))])
		}
		for _, k := range other.All() {
			other.Put(k.Row, k.Col, api.Value{})
		}
		c.Shuffle(len(list), func(i, j int) { list[i], list[j] = list[j], list[i] })
		for _, k := range list {
			other.Put(k.Row, k.Col, k.V)
		}
		for range 50 {
			if e := c.tree(4); Exp(e, b) != Exp(e, other) {
				t.Fatalf("%s: %s, then %s", brief(e), brief(Exp(e, b)), brief(Exp(e, other)))
			}
		}
	}
}

// P15.5: formulas that differ only in brackets and blanks, by hand.
func TestBracketsAndBlanks(t *testing.T) {
	b := known().board()
	for _, list := range [][]string{
		{"A1+A2", "(A1+A2)", " A1 + A2 ", "((A1)+(A2))", "( A1 )+ A2"},
		{"A1-A2-1", "(A1-A2)-1", "((A1-A2))- 1 "},
		{"A1-(A2-1)", "(A1)-((A2-1))"},
		{"1+2*3", "1+(2*3)", "(1)+(2*(3))"},
		{"-A1*2", "(-A1)*2", "- A1 * 2", "-(A1)*2"},
		{"SUM(C1:D3,1)", "SUM( C1:D3 , 1 )", "(SUM(C1:D3,(1)))", "SUM(C1 : D3,1)"},
		{"A5", "(A5)", " A5 ", "((((A5))))"},
		{`A1&"  "&A2`, `(A1&"  ")&A2`, ` A1 & "  " & A2`},
		{"A1<A2=TRUE", "(A1<A2)=TRUE", "((A1 < A2)) = (TRUE)"},
		{`IF(A3,A5,"x")`, `IF( (A3) , (A5) , ("x") )`},
		{"#REF!", "(#REF!)", " #REF! "},
	} {
		first := tree(t, list[0])
		for _, s := range list {
			e := tree(t, s)
			if Exp(e, b) != Exp(first, b) || Formula(e, b) != Formula(first, b) {
				t.Errorf("%q: %v, not as %q: %v", s, Exp(e, b), list[0], Exp(first, b))
			}
		}
	}
	// Blanks within a text are its own.
	if Exp(tree(t, `"a b"`), b) != value.Text("a b") || Exp(tree(t, `"(1)"`), b) != value.Text("(1)") {
		t.Error("a text with a blank, or with brackets")
	}
}

// blanks are some blanks, or none.
func (c chance) blanks() string { return strings.Repeat(" ", max(0, c.IntN(5)-2)) }

// written is a tree as a formula, each part in one pair of brackets or more, or none where it needs none, with blanks about it.
func (c chance) written(e api.Exp) string {
	var parts []string
	for _, part := range e.L {
		parts = append(parts, c.written(part))
	}
	text := ""
	switch e.K {
	case api.XNum:
		text = num.Print(e.N)
	case api.XText:
		text = `"` + strings.ReplaceAll(e.S, `"`, `""`) + `"`
	case api.XBool:
		text = value.Show(value.Bool(e.N == 1))
	case api.XErr:
		text = value.ErrName(e.E)
	case api.XRef:
		text = coord.Print(e.R)
	case api.XRange:
		return c.blanks() + coord.Print(e.R) + c.blanks() + ":" + c.blanks() + coord.Print(e.R2) + c.blanks()
	case api.XNeg:
		return c.blanks() + "(-" + parts[0] + ")" + c.blanks()
	case api.XBin:
		return c.blanks() + "(" + parts[0] + e.S + parts[1] + ")" + c.blanks()
	case api.XCall:
		text = e.S + c.blanks() + "(" + strings.Join(parts, ",") + ")"
	}
	for range c.IntN(3) {
		text = "(" + c.blanks() + text + ")"
	}
	return c.blanks() + text + c.blanks()
}

// P15.5: formulas by chance, with brackets and blanks more than they need, and with none.
func TestTidied(t *testing.T) {
	c, read := byChance(7), 0
	for range 60 {
		b := c.paper().board()
		for range 60 {
			e := c.tree(1 + c.IntN(3))
			want := Exp(e, b)
			tidy, fault := print.Formula(e)
			if fault != api.OK {
				t.Fatalf("%s can't be written", brief(e))
			}
			for _, s := range []string{tidy, "(" + tidy + ")", c.written(e), c.written(e)} {
				x, _, fault := parse.Formula(s)
				if fault == api.ErrLong {
					continue
				}
				read++
				if got := Exp(x, b); fault != api.OK || got != want || Formula(x, b) != Formula(e, b) {
					t.Fatalf("%q: %s, not %s; %d", s, brief(got), brief(want), int(fault))
				}
			}
		}
	}
	if read < 10000 {
		t.Errorf("only %d formulas were read", read)
	}
}

// disguised is a tree with anything in those fields that play no part, lists too.
func (c chance) disguised(e api.Exp) api.Exp {
	r := api.Ref{Row: c.IntN(9) - 2, Col: c.IntN(9) - 2, AbsRow: true}
	other := api.Exp{K: e.K, N: c.Int64() - c.Int64(), S: c.of("A1 + SUM TRUE"), E: c.IntN(9) - 2, R: r, R2: r, L: []api.Exp{{K: -1}, e, {K: api.XErr, E: 3}}}
	switch e.K {
	case api.XNum, api.XBool:
		other.N = e.N
	case api.XText:
		other.S = e.S
	case api.XErr:
		other.E = e.E
	case api.XRef:
		other.R = e.R
	case api.XRange:
		other.R, other.R2 = e.R, e.R2
	default:
		other.S, other.L = e.S, nil
		for _, part := range e.L {
			other.L = append(other.L, c.disguised(part))
		}
	}
	return other
}

// P15.5: trees that are the same come to the same, whatever is in fields that play no part; a reference may be absolute or not.
func TestTreeAlone(t *testing.T) {
	c := byChance(8)
	for range 60 {
		p := c.paper()
		b := p.board()
		for range 60 {
			e := c.tree(1 + c.IntN(4))
			other := c.disguised(e)
			if !parse.Same(e, other) {
				t.Fatalf("%s and %s are not the same", brief(e), brief(other))
			}
			if got, want := Exp(other, b), Exp(e, b); got != want || Formula(other, b) != Formula(e, b) {
				t.Fatalf("%s: %s, not %s", brief(other), brief(got), brief(want))
			}
			hold(t, other, b, p)
		}
	}
}

// P15.6: what comes is Normal, and a formula is never Blank.
func TestNormal(t *testing.T) {
	c := byChance(9)
	list := refused()
	for _, v := range every() {
		// What a value would be as a tree, well made or not.
		list = append(list, api.Exp{K: api.XNum, N: v.N}, api.Exp{K: api.XText, S: v.S}, api.Exp{K: api.XBool, N: v.N}, api.Exp{K: api.XErr, E: v.E})
	}
	blanks := 0
	for range 60 {
		b := New()
		for range 60 {
			from := every()
			b.Put(c.row(), c.col(), from[c.IntN(len(from))])
		}
		for range 60 {
			list = append(list, c.tree(1+c.IntN(4)))
		}
		for _, e := range list {
			v, cell := Exp(e, b), Formula(e, b)
			if v != value.Normal(v) || cell != value.Normal(cell) || cell.K == api.Blank {
				t.Fatalf("%s: %s, as a formula %s", brief(e), brief(v), brief(cell))
			}
			if v.K == api.Blank {
				blanks++
			}
		}
		list = list[:0]
	}
	if blanks == 0 {
		t.Error("nothing came to Blank")
	}
}

// roomy is a tree whose lists have other trees in their spare room.
func roomy(e api.Exp) api.Exp {
	list := make([]api.Exp, 0, len(e.L)+2)
	for _, part := range e.L {
		list = append(list, roomy(part))
	}
	e.L = append(list, aNum(70000), anError(4))[:len(list)]
	return e
}

// opened is a copy of a tree in which spare room is laid open as further parts.
func opened(e api.Exp) api.Exp {
	var list []api.Exp
	for _, part := range e.L[:cap(e.L)] {
		list = append(list, opened(part))
	}
	e.L = list
	return e
}

// Trees and boards are not changed, the spare room of lists included, and that plays no part.
func TestChangesNothing(t *testing.T) {
	c := byChance(10)
	for range 30 {
		p := c.paper()
		b := p.board()
		before := b.All()
		for range 30 {
			plain := c.tree(1 + c.IntN(4))
			e := roomy(plain)
			kept := opened(e)
			if Exp(e, b) != Exp(plain, b) || Formula(e, b) != Formula(plain, b) {
				t.Fatalf("%s with spare room: %s", brief(plain), brief(Exp(e, b)))
			}
			if !reflect.DeepEqual(opened(e), kept) {
				t.Fatalf("%s was changed", brief(plain))
			}
		}
		for _, e := range refused() {
			Exp(e, b)
			Formula(e, b)
		}
		if !slices.Equal(b.All(), before) {
			t.Fatalf("the board was changed: %s, then %s", brief(before), brief(b.All()))
		}
	}
}

// Nothing is kept: what comes hangs on the tree as it is now, and on the board as it is now.
func TestKeepsNothing(t *testing.T) {
	b := New()
	e := tree(t, "A1+SUM(A1:A2,3)")
	for n := range int64(5) {
		b.Put(1, 1, value.Num(10000*n))
		b.Put(2, 1, value.Num(n))
		if got := Exp(e, b); got != value.Num(20000*n+n+30000) {
			t.Errorf("with %d: %v", n, got)
		}
	}
	e.L[1].S = "COUNT"
	e.L[0] = aNum(5)
	if got := Exp(e, b); got != value.Num(30005) {
		t.Errorf("when the tree was changed: %v", got)
	}
	if got := Exp(e, New()); got != value.Num(10005) {
		t.Errorf("on another board: %v", got)
	}
	b.Put(1, 1, api.Value{})
	if got := Exp(e, b); got != value.Num(20005) {
		t.Errorf("when a place is Blank again: %v", got)
	}
	c := byChance(11)
	for range 20 {
		b := c.paper().board()
		for range 50 {
			e, other := c.tree(4), c.tree(4)
			first := Exp(e, b)
			Exp(other, b)
			Exp(other, nil)
			if second := Exp(e, b); first != second {
				t.Fatalf("%s: %s, then %s", brief(e), brief(first), brief(second))
			}
		}
	}
}
