package eval

import (
	"math"
	"strings"
	"testing"

	"cadastre/api"
	"cadastre/coord"
	"cadastre/parse"
	"cadastre/value"
)

// hold holds Exp and Formula of a tree against what the chapter says of them.
func hold(t *testing.T, e api.Exp, b *Board, p *paper) {
	t.Helper()
	want := said(e, p)
	got, cell := Exp(e, b), Formula(e, b)
	if got != want {
		t.Fatalf("%s: %s, not %s", brief(e), brief(got), brief(want))
	}
	if want == (api.Value{}) {
		want = api.Value{K: api.Number}
	}
	if cell != want {
		t.Fatalf("%s as a formula: %s, not %s", brief(e), brief(cell), brief(want))
	}
}

// laid is a paper with cells' texts by their references.
func laid(cells map[string]string) *paper {
	p := &paper{}
	for name, text := range cells {
		r, _ := coord.Parse(name)
		p.write(r.Row, r.Col, value.Literal(text))
	}
	return p
}

// known is a paper whose values are known by heart.
func known() *paper {
	return laid(map[string]string{
		"A1": "2", "A2": "'3", "A3": "TRUE", "A4": "FALSE", "A6": "'", "A7": "'abc", "A8": "-1.5", "A9": "'TRUE",
		"B1": "#REF!", "B2": "#VALUE!", "B3": "#DIV/0!", "B4": "#NUM!", "B5": "#CYCLE!",
		"C1": "1", "C2": "2", "C3": "3", "D1": "4", "D2": "5", "D3": "6",
		"E1": "'x", "E3": "7", "E4": "TRUE", "E5": "0.5",
		"AZ1": "11", "A1000": "12", "AZ1000": "13",
	})
}

// formulas holds formulas against texts of what they come to, as cells have them, on the known paper.
func formulas(t *testing.T, list [][2]string) {
	t.Helper()
	p := known()
	b := p.board()
	for _, pair := range list {
		e := tree(t, pair[1])
		if got := Exp(e, b); got != value.Literal(pair[0]) {
			t.Errorf("%s: %s, not %s", pair[1], brief(got), pair[0])
		}
		hold(t, e, b, p)
	}
}

// P15.2, P15.3: the chapter's examples.
func TestExamples(t *testing.T) {
	for _, b := range []*Board{New(), nil} {
		for s, want := range map[string]api.Value{"A1+1": value.Num(10000), "A1": {}, `SUM(A1:A2)="3"`: value.Bool(false)} {
			if got := Exp(tree(t, s), b); got != want {
				t.Errorf("%s: %v", s, got)
			}
		}
		if got := Formula(tree(t, "A1"), b); got != value.Num(0) {
			t.Errorf("A1 as a formula: %v", got)
		}
	}
	b := New()
	b.Put(1, 1, value.Num(10000))
	b.Put(2, 1, value.Num(20000))
	for s, want := range map[string]bool{`SUM(A1:A2)="3"`: false, `SUM(A1:A2)=3`: true, `SUM(A1:A2)&""="3"`: true} {
		if got := Exp(tree(t, s), b); got != value.Bool(want) {
			t.Errorf("%s: %v", s, got)
		}
	}
}

// P15.2: numbers, texts, truths, errors are such values.
func TestConstants(t *testing.T) {
	formulas(t, [][2]string{
		{"0", "0"}, {"1", "1"}, {"0.0001", "0.0001"}, {"922337203685477.5807", "922337203685477.5807"}, {"TRUE", "TRUE"}, {"FALSE", "FALSE"},
		{"'", `""`}, {"'a", `"a"`}, {"'1", `"1"`}, {"'TRUE", `"TRUE"`}, {"'=A1", `"=A1"`}, {`'a"b`, `"a""b"`},
		{"#REF!", "#REF!"}, {"#VALUE!", "#VALUE!"}, {"#DIV/0!", "#DIV/0!"}, {"#NUM!", "#NUM!"}, {"#CYCLE!", "#CYCLE!"},
	})
	for _, n := range []int64{0, 1, 9999, 10000, api.Most - 1, api.Most} {
		if got := Exp(aNum(n), nil); got != (api.Value{K: api.Number, N: n}) {
			t.Errorf("%d: %v", n, got)
		}
	}
	for _, s := range []string{"", "a", "\x00\xff", letters(299), letters(300)} {
		if got := Exp(aText(s), nil); got != (api.Value{K: api.Text, S: s}) {
			t.Errorf("%q: %v", s, got)
		}
	}
	if got := Exp(aText(letters(301)), nil); got != value.Err(api.EValue) {
		t.Errorf("a text of 301 bytes: %s", brief(got))
	}
	for e := 1; e <= 5; e++ {
		if got := Exp(anError(e), nil); got != (api.Value{K: api.Error, E: e}) {
			t.Errorf("the error %d: %v", e, got)
		}
	}
	for n := range int64(2) {
		if got := Exp(aBool(n), nil); got != (api.Value{K: api.Bool, N: n}) {
			t.Errorf("the truth %d: %v", n, got)
		}
	}
}

// P15.2: references are what the board has there, absolute or not.
func TestRefs(t *testing.T) {
	formulas(t, [][2]string{
		{"2", "A1"}, {"2", "$A1"}, {"2", "A$1"}, {"2", "$A$1"}, {"'3", "A2"}, {"TRUE", "A3"}, {"FALSE", "A4"}, {"", "A5"}, {"", "$A$5"}, {"'", "A6"}, {"-1.5", "A8"}, {"'TRUE", "A9"},
		{"#REF!", "B1"}, {"#VALUE!", "B2"}, {"#DIV/0!", "B3"}, {"#NUM!", "B4"}, {"#CYCLE!", "$B$5"}, {"11", "AZ1"}, {"12", "A1000"}, {"13", "AZ1000"}, {"13", "$AZ$1000"}, {"", "AZ999"}, {"", "AY1000"}, {"1", "C1"}, {"", "A30"},
	})
	for _, v := range every() {
		for _, at := range edges() {
			b := New()
			b.Put(at.Row, at.Col, v)
			if got := Exp(aRef(at.Row, at.Col), b); got != value.Normal(v) {
				t.Fatalf("%v, which has %s: %s", at, brief(v), brief(got))
			}
		}
	}
	for _, at := range noPlaces() {
		if got := Exp(aRef(at.Row, at.Col), New()); got != value.Err(api.EValue) {
			t.Errorf("%v: %v", at, got)
		}
	}
}

// P15.2: a - ahead.
func TestNeg(t *testing.T) {
	formulas(t, [][2]string{
		{"-1", "-1"}, {"1", "--1"}, {"-1", "---1"}, {"-2", "-A1"}, {"-3", "-A2"}, {"-1", "-A3"}, {"0", "-A4"}, {"0", "-A5"}, {"#VALUE!", "-A6"}, {"#VALUE!", "-A7"}, {"1.5", "-A8"}, {"#VALUE!", "-A9"}, {"#REF!", "-B1"}, {"#CYCLE!", "-B5"}, {"-922337203685477.5807", "-922337203685477.5807"},
		{"2", "-A1*-1"}, {"-21", "-SUM(C1:D3)"}, {"-5", "-(A1+A2)"}, {"1", "-A1+A2"},
	})
	for _, v := range every() {
		p := &paper{1: {1: value.Normal(v)}}
		b := p.board()
		hold(t, aNeg(aRef(1, 1)), b, p)
		hold(t, aNeg(aNeg(aRef(1, 1))), b, p)
	}
}

// P15.2: each sign, with values and errors, by hand.
func TestSignsByHand(t *testing.T) {
	formulas(t, [][2]string{
		{"5", "A1+A2"}, {"-1", "A1-A2"}, {"1", "A2-A1"}, {"6", "A1*A2"}, {"0.6667", "A1/A2"}, {"1.5", "A2/A1"}, {"#DIV/0!", "A1/A4"}, {"#DIV/0!", "A1/A5"}, {"3", "A1+A3"}, {"2", "A1+A5"}, {"0", "A5+A5"}, {"#VALUE!", "A1+A6"}, {"#VALUE!", "A1+A7"},
		{"#NUM!", "922337203685477.5807+0.0001"}, {"#NUM!", "922337203685477.5807*2"}, {"922337203685477.5807", "922337203685477.5807-0"},
		{"'23", "A1&A2"}, {"'32", "A2&A1"}, {"'TRUEFALSE", "A3&A4"}, {"'", "A5&A5"}, {"'abc", "A6&A7"}, {"'-1.52", "A8&A1"},
		{"TRUE", "1=1"}, {"FALSE", "1=2"}, {"FALSE", "1<>1"}, {"TRUE", "1<>2"}, {"TRUE", "1<2"}, {"FALSE", "1<1"}, {"FALSE", "2<1"}, {"TRUE", "1<=2"}, {"TRUE", "1<=1"}, {"FALSE", "2<=1"}, {"FALSE", "1>2"}, {"FALSE", "1>1"}, {"TRUE", "2>1"}, {"FALSE", "1>=2"}, {"TRUE", "1>=1"}, {"TRUE", "2>=1"},
		{"TRUE", "A1<A2"}, {"TRUE", "A2<A3"}, {"TRUE", "A4<A3"}, {"FALSE", "A2=3"}, {"TRUE", "A2>3"}, {"TRUE", `A2="3"`}, {"TRUE", "A5=0"}, {"TRUE", `A5=""`}, {"TRUE", "A5=FALSE"}, {"FALSE", "A5=TRUE"}, {"TRUE", "A5=A6"}, {"TRUE", "A5=A10"}, {"TRUE", "A5<A1"}, {"TRUE", "A5>A8"}, {"TRUE", `"a"<"ab"`}, {"TRUE", `"B"<"a"`}, {"FALSE", "A9=A3"},
		{"#DIV/0!", "B3+B1"}, {"#REF!", "B1+B3"}, {"#DIV/0!", "B3&B1"}, {"#REF!", "B1&B3"}, {"#DIV/0!", "B3=B1"}, {"#REF!", "B1=B3"}, {"#REF!", "B1<>B1"}, {"#NUM!", "A1=B4"}, {"#NUM!", "B4>=A1"}, {"#VALUE!", "A7+B4"}, {"#NUM!", "B4+A7"}, {"#NUM!", "A7&B4"}, {"#NUM!", "A7=B4"}, {"#REF!", "#REF!/0"}, {"#REF!", "0/#REF!"},
		{"7", "1+2*3"}, {"9", "(1+2)*3"}, {"-4", "1-2-3"}, {"2", "1-(2-3)"}, {"TRUE", "1+1=2"}, {"'12", `1&2`}, {"FALSE", `1&2=12`}, {"TRUE", `1&2="12"`}, {"FALSE", "3>2>1=FALSE"},
	})
}

// P15.2: each sign between any two values, as the board has them.
func TestSigns(t *testing.T) {
	p := &paper{}
	for _, v := range every() {
		for _, w := range every() {
			b := New()
			for _, put := range []func(row, col int, v api.Value){p.write, b.Put} {
				put(1, 1, v)
				put(1000, 52, w)
			}
			for _, sign := range strings.Fields(signs) {
				got := Exp(aBin(sign, aRef(1, 1), aRef(1000, 52)), b)
				if want := both(sign, value.Normal(v), value.Normal(w)); got != want {
					t.Fatalf("%s %s %s: %s, not %s", brief(v), sign, brief(w), brief(got), brief(want))
				}
				hold(t, aBin(sign, aNeg(aRef(1, 1)), aRef(1000, 52)), b, p)
			}
		}
	}
}

// P15.2: the functions of many values: ranges are areas, others their values.
func TestCallsOfMany(t *testing.T) {
	formulas(t, [][2]string{
		{"21", "SUM(C1:D3)"}, {"2", "SUM(A1:A3)"}, {"6", "SUM(A1,A2,A3)"}, {"0", "SUM(A2:A2)"}, {"3", "SUM(A2)"}, {"24", "SUM(C1:D3,A2)"}, {"23", "SUM(A2:A2,C1:D3,A1:A1)"}, {"0", "SUM(A5)"}, {"0", "SUM(A5:A5)"}, {"7.5", "SUM(E1:E5)"}, {"5", "SUM(C1:D1)"}, {"6", "SUM(C1:C3)"}, {"36.5", "SUM(A1:A1,AZ1,A1000,AZ1000,A8)"}, {"#REF!", "SUM(A1:B5)"}, {"#REF!", "SUM(B5:A1)"}, {"#VALUE!", "SUM(A7)"}, {"0", "SUM(A7:A7)"}, {"#REF!", "SUM(A1:AZ1000)"}, {"52.5", "SUM(C1:AZ1000)"},
		{"6", "COUNT(C1:D3)"}, {"2", "COUNT(E1:E5)"}, {"2", "COUNT(A1:B9)"}, {"1", "COUNT(A5)"}, {"0", "COUNT(A5:A5)"}, {"0", "COUNT(B1,B2)"}, {"13", "COUNT(A1:AZ1000)"},
		{"1", "MIN(C1:D3)"}, {"-1.5", "MIN(C1:D3,A8)"}, {"0", "MIN(A5:A7)"}, {"6", "MAX(C1:D3)"}, {"0", "MAX(A5)"}, {"13", "MAX(C1:AZ1000)"}, {"3", "MAX(A1,A2)"}, {"2", "MAX(A1:A2)"},
		{"3.5", "AVERAGE(C1:D3)"}, {"3.75", "AVERAGE(E1:E5)"}, {"#DIV/0!", "AVERAGE(A5:A5)"}, {"0", "AVERAGE(A5)"},
		{"TRUE", "AND(E1:E5)"}, {"FALSE", "AND(A3:A4)"}, {"#VALUE!", "AND(A5:A7)"}, {"TRUE", "AND(A9)"}, {"TRUE", "OR(A3:A4)"}, {"FALSE", "OR(A4:A6)"}, {"FALSE", "OR(A5)"}, {"#REF!", "OR(A3,B1)"},
		{"'142536", "CONCAT(C1:D3)"}, {"'142536", "CONCAT(D3:C1)"}, {"'142536", "CONCAT(C3:D1)"}, {"'142536", "CONCAT(D1:C3)"}, {"'14", "CONCAT(C1:D1)"}, {"'456", "CONCAT(D3:D1)"}, {"'x7TRUE0.5", "CONCAT(E1:E5)"}, {"'23TRUEFALSEabc-1.5TRUE", "CONCAT(A1:A9)"}, {"'", "CONCAT(A5)"}, {"#DIV/0!", "CONCAT(B3:B5)"}, {"'142536a142", `CONCAT(C1:D3,"a",C1:D1,2)`},
		{"42", "SUM(C1:D3,SUM(C1:D3))"}, {"13", "SUM(MAX(C1:D3),MIN(C1:D3)+A1*A2)"},
	})
}

// P15.2: the other functions, for which an area is an error, but for INDEX's first argument.
func TestCallsOfFew(t *testing.T) {
	formulas(t, [][2]string{
		{"2", "IF(A3,A1,B1)"}, {"FALSE", "IF(A4,A1)"}, {"'3", "IF(A4,B1,A2)"}, {"#DIV/0!", "IF(B3,1,2)"}, {"", "IF(A3,A5)"}, {"", "IF(A5,1,A10)"}, {"2", "IF(A5,1,2)"}, {"#VALUE!", "IF(A7,1,2)"}, {"1", "IF(A9,1,2)"}, {"#VALUE!", "IF(A3,C1:D3)"}, {"2", "IF(A4,C1:D3,2)"}, {"#VALUE!", "IF(C1:D3,1,2)"},
		{"FALSE", "NOT(A3)"}, {"TRUE", "NOT(A5)"}, {"FALSE", "NOT(A9)"}, {"#VALUE!", "NOT(A3:A3)"}, {"2", "ABS(A1)"}, {"1.5", "ABS(A8)"}, {"#VALUE!", "ABS(A1:A1)"}, {"0", "ABS(A5)"}, {"3", "ABS(-A2)"},
		{"-2", "ROUND(A8,0)"}, {"0.67", "ROUND(A1/A2,2)"}, {"#VALUE!", "ROUND(A1:A1,0)"}, {"0.5", "MOD(A8,A1)"}, {"#DIV/0!", "MOD(A1,A5)"}, {"-2", "FLOOR(A8)"}, {"3", "FLOOR(A2)"}, {"1.4142", "SQRT(A1)"}, {"#NUM!", "SQRT(A8)"},
		{"3", "LEN(A7)"}, {"4", "LEN(A8)"}, {"0", "LEN(A5)"}, {"#VALUE!", "LEN(A7:A7)"}, {"'a", "LEFT(A7)"}, {"'ab", "LEFT(A7,A1)"}, {"'abc", "LEFT(A7,A2)"}, {"#VALUE!", "LEFT(A7,A8)"},
		{"5", "INDEX(C1:D3,2,2)"}, {"5", "INDEX(D3:C1,2,2)"}, {"3", "INDEX(C3:D1,3,1)"}, {"4", "INDEX(D1:C3,1,2)"}, {"1", "INDEX(D1:C3,1)"}, {"6", "INDEX($C$1:D3,3,2)"}, {"#REF!", "INDEX(C1:D3,4,1)"}, {"#REF!", "INDEX(C1:D3,1,3)"}, {"#REF!", "INDEX(C1:D3,0,1)"}, {"3", "INDEX(C1:C3,3)"}, {"#REF!", "INDEX(C1:C3,1,3)"}, {"4", "INDEX(C1:D1,1,2)"},
		{"", "INDEX(A5,1)"}, {"", "INDEX(A5:A5,1)"}, {"2", "INDEX(A1,1,1)"}, {"#REF!", "INDEX(A1,2)"}, {"#CYCLE!", "INDEX(A1:B9,5,2)"}, {"", "INDEX(A1:B9,6,2)"},
		{"13", "INDEX(A1:AZ1000,1000,52)"}, {"11", "INDEX(A1:AZ1000,1,52)"}, {"12", "INDEX(AZ1000:A1,1000,1)"}, {"2", "INDEX(AZ1:A1000,1,1)"}, {"#REF!", "INDEX(A1:AZ1000,1001)"}, {"#REF!", "INDEX(A1:AZ1000,1,53)"},
		{"TRUE", "ISERROR(B5)"}, {"FALSE", "ISERROR(A1)"}, {"FALSE", "ISERROR(A5)"}, {"TRUE", "ISERROR(C1:D3)"}, {"TRUE", "ISERROR(A1/0)"}, {"'x", `IFERROR(B1,"x")`}, {"", "IFERROR(A5,1)"}, {"1", "IFERROR(A5:A5,1)"}, {"#NUM!", "IFERROR(B1,B4)"}, {"2", "IFERROR(A1,B4)"}, {"7", "IFERROR(SUM(B1:B5),7)"},
	})
}

// P15.2: ranges whose ends stand in any order are the areas of their rectangles, row by row.
func TestRanges(t *testing.T) {
	p := &paper{}
	for _, rows := range [][]int{{1, 2, 3, 4}, {997, 998, 999, 1000}} {
		for i, row := range rows {
			for j, col := range []int{1, 2, 51, 52} {
				if (i+j)%4 > 0 {
					p.write(row, col, value.Num(int64(10000*(10*i+j))))
				}
			}
		}
	}
	p.write(2, 2, value.Text("a"))
	b := p.board()
	for _, e := range []api.Exp{aRange(1, 1, 1000, 52), aRange(1000, 52, 1, 1), aRange(2, 52, 999, 1), aRange(1000, 1, 1, 1), aRange(1000, 52, 1000, 51), aRange(997, 2, 999, 51), aRange(1000, 52, 1000, 52)} {
		for _, name := range []string{"SUM", "COUNT", "CONCAT"} {
			hold(t, aCall(name, e), b, p)
		}
		hold(t, aCall("INDEX", e, aNum(9990000), aNum(510000)), b, p)
	}
	for _, a := range edgesOf(1, 4) {
		for _, z := range edgesOf(1, 4) {
			for turn := range 4 {
				e := api.Exp{K: api.XRange, R: api.Ref{Row: a.Row, Col: a.Col, AbsRow: turn == 1, AbsCol: turn == 2}, R2: api.Ref{Row: z.Row, Col: z.Col, AbsCol: turn == 3}}
				if turn > 1 {
					e.R.Row, e.R2.Row = e.R2.Row, e.R.Row
				}
				for _, name := range []string{"SUM", "COUNT", "CONCAT"} {
					hold(t, aCall(name, e), b, p)
				}
				for row := range int64(6) {
					hold(t, aCall("INDEX", e, aNum(10000*row), aNum(10000*(row%3))), b, p)
				}
			}
		}
	}
}

// edgesOf are places of these rows, in columns at both ends.
func edgesOf(from, to int) []api.Place {
	var out []api.Place
	for row := from; row <= to; row++ {
		for _, col := range []int{1, 2, 51, 52} {
			out = append(out, api.Place{Row: row, Col: col})
		}
	}
	return out
}

// P15.2: each function, with as many arguments as it has, values and areas by turns, of values of all kinds.
func TestEveryFunction(t *testing.T) {
	p := &paper{}
	for _, name := range strings.Fields(names) {
		fewest, most, _ := parse.Known(name)
		for i, v := range every() {
			for j, w := range some() {
				b := New()
				for _, put := range []func(row, col int, v api.Value){p.write, b.Put} {
					put(1, 1, v)
					put(1, 2, w)
				}
				parts := []api.Exp{aRef(1, 1), aRef(1, 2), aRange(1, 1, 1, 2), aRange(1, 2, 1, 1), aRange(1, 1, 1, 1), aRef(1, 3), aNum(10000)}
				for count := fewest; count <= min(most, 3); count++ {
					e := aCall(name)
					for k := range count {
						e.L = append(e.L, parts[(i+j*(k+1)+k)%len(parts)])
					}
					hold(t, e, b, p)
					hold(t, aCall(name, parts[:count]...), b, p)
				}
			}
		}
		twenty := aCall(name, times(20, aRef(1, 1))...)
		hold(t, twenty, nil, &paper{})
		if well := most == api.MaxArgs; well != (Exp(twenty, nil).K != api.Error) {
			t.Errorf("%s of 20 arguments: %v", name, Exp(twenty, nil))
		}
	}
}

// refused are trees that are not well made.
func refused() []api.Exp {
	one, area := aNum(10000), aRange(1, 1, 2, 2)
	return []api.Exp{
		{K: -1}, {K: 9}, {K: 10, L: []api.Exp{one, one}}, {K: math.MaxInt}, {K: math.MinInt}, {K: 256},
		aNum(-1), aNum(-api.Most), aNum(least), aText(letters(301)), aText(letters(1 << 16)), aBool(2), aBool(-1), aBool(10000), aBool(least), anError(0), anError(6), anError(-1), anError(math.MaxInt),
		{K: api.XRef}, aRef(0, 1), aRef(1, 0), aRef(1001, 1), aRef(1, 53), aRef(-1, 1), aRef(1, -1), aRef(math.MinInt, math.MaxInt),
		aNeg(), aNeg(one, one), aNeg(area), aBin("+"), aBin("+", one), aBin("+", one, one, one), aBin("=", area, one), aBin("&", one, area), aBin("", one, one), aBin("==", one, one), aBin("=<", one, one), aBin("^", one, one), aBin("+ ", one, one), aBin(",", one, one), aBin("<>=", one, one), aBin("SUM", one, one),
		aCall("SUM"), aCall("SUM", times(21, one)...), aCall("sum", one), aCall("", one), aCall("FOO", one), aCall("TRUE", one), aCall("+", one, one), aCall("NOT", one, one), aCall("IF", one), aCall("IF", times(4, one)...), aCall("LEFT", times(3, one)...), aCall("ROUND", one), aCall("INDEX", area), aCall("IFERROR", one),
		aCall("SUM", aRange(0, 1, 2, 2)), aCall("SUM", aRange(1, 1, 2, 53)), aCall("SUM", aRange(1, 53, 2, 2)), aCall("SUM", aRange(1, 1, 1001, 2)), aCall("SUM", aRange(0, 0, 0, 0)), aCall("SUM", aRange(math.MinInt, 1, math.MaxInt, 1)), aCall("SUM", one, aNeg(area)),
	}
}

// P15.2: trees that are not well made are EValue, and so is all in which they lie, even where they are not chosen or errors are caught.
func TestRefused(t *testing.T) {
	one, area := aNum(10000), aRange(1, 1, 2, 2)
	boards := []*Board{New(), known().board(), nil}
	for _, e := range append(refused(), area, aRange(1, 1, 1, 1)) {
		for _, whole := range []api.Exp{
			e, aNeg(e), aNeg(aNeg(e)), aBin("+", one, e), aBin("=", e, one), aBin("&", anError(1), e), aBin("+", anError(3), aNeg(e)), aCall("SUM", anError(1), aNeg(e)), aCall("IF", aBool(1), one, aNeg(e)), aCall("IF", aBool(0), aNeg(e), one),
			aCall("IFERROR", aNeg(e), one), aCall("IFERROR", one, aBin("*", e, one)), aCall("ISERROR", aNeg(e)), aCall("COUNT", one, aBin("-", one, e), one), aCall("IFERROR", aCall("SUM", aNeg(e)), one),
		} {
			for _, b := range boards {
				if got := Exp(whole, b); got != value.Err(api.EValue) {
					t.Errorf("Exp of %s: %s", brief(whole), brief(got))
				}
				if got := Formula(whole, b); got != value.Err(api.EValue) {
					t.Errorf("Formula of %s: %s", brief(whole), brief(got))
				}
			}
		}
	}
	// As arguments these can't be either, where a range may stand.
	for _, e := range refused() {
		for _, whole := range []api.Exp{aCall("SUM", e), aCall("COUNT", area, e), aCall("ISERROR", e), aCall("IFERROR", e, one), aCall("IF", aBool(1), one, e)} {
			if got := Exp(whole, boards[1]); got != value.Err(api.EValue) {
				t.Errorf("Exp of %s: %s", brief(whole), brief(got))
			}
		}
	}
}

// nested is a tree that lies so many times in what wraps it.
func nested(count int, e api.Exp, wrap func(e api.Exp) api.Exp) api.Exp {
	for range count {
		e = wrap(e)
	}
	return e
}

// P15.2: trees that lie deeper in one another than formulas can.
func TestDeep(t *testing.T) {
	one, p := aNum(10000), &paper{1: {1: value.Num(10000)}}
	b := p.board()
	for _, c := range []struct {
		first api.Exp
		wrap  func(e api.Exp) api.Exp
		want  func(n int64) api.Value
	}{
		{one, func(e api.Exp) api.Exp { return aNeg(e) }, func(n int64) api.Value { return value.Num(10000 * (1 - n%2*2)) }},
		{one, func(e api.Exp) api.Exp { return aBin("+", e, one) }, func(n int64) api.Value { return value.Num(10000 * (n + 1)) }},
		{one, func(e api.Exp) api.Exp { return aBin("+", one, e) }, func(n int64) api.Value { return value.Num(10000 * (n + 1)) }},
		{one, func(e api.Exp) api.Exp { return aCall("SUM", e) }, func(n int64) api.Value { return value.Num(10000) }},
		{aRef(1, 1), func(e api.Exp) api.Exp { return aCall("SUM", aRange(1, 1, 2, 2), e) }, func(n int64) api.Value { return value.Num(10000 * (n + 1)) }},
		{aBool(1), func(e api.Exp) api.Exp { return aCall("NOT", e) }, func(n int64) api.Value { return value.Bool(n%2 == 0) }},
		{aBool(1), func(e api.Exp) api.Exp { return aBin("=", e, aBool(1)) }, func(n int64) api.Value { return value.Bool(true) }},
		{aText(""), func(e api.Exp) api.Exp { return aBin("&", aText("x"), e) }, func(n int64) api.Value { return value.Text(letters(int(n))) }},
		{aNum(-1), func(e api.Exp) api.Exp { return aCall("IFERROR", e, one) }, func(n int64) api.Value { return value.Err(api.EValue) }},
	} {
		for _, count := range []int{39, 40, 41, 42, 300, 301, 1<<16 - 2} {
			deep, want := nested(count, c.first, c.wrap), c.want(int64(count))
			if got := Exp(deep, b); got != want {
				t.Errorf("%d in one another, the last %s: %s, not %s", count, brief(c.wrap(c.first)), brief(got), brief(want))
			}
			if count < 1000 {
				hold(t, deep, b, p)
			}
		}
	}
}

// P15.2, P15.3: a nil board is as New.
func TestNilBoard(t *testing.T) {
	c, p := byChance(3), &paper{}
	for range 3000 {
		e := c.tree(4)
		hold(t, e, nil, p)
		if Exp(e, nil) != Exp(e, New()) || Formula(e, nil) != Formula(e, New()) {
			t.Fatalf("%s on no board: %s", brief(e), brief(Exp(e, nil)))
		}
	}
}

// P15.3: a formula that comes to Blank is 0, and one whose part does is as it is.
func TestFormula(t *testing.T) {
	p := known()
	b := p.board()
	for s, want := range map[string]string{
		"A5": "0", "$A$5": "0", "(A5)": "0", "IF(TRUE,A5)": "0", "IF(A4,1,A5)": "0", "IFERROR(A5,1)": "0", "IFERROR(B1,A5)": "0", "INDEX(A5,1)": "0", "INDEX(A1:B9,6,2)": "0", "IF(TRUE,IF(TRUE,A5))": "0", "AZ999": "0",
		"A5=\"\"": "TRUE", "A5&A5": "'", "LEN(A5)": "0", "A5+A5": "0", "-A5": "0", "IF(TRUE,A5)=\"\"": "TRUE", "CONCAT(A5)": "'", "CONCAT(IF(TRUE,A5))": "'", "COUNT(A5:A5)": "0", "COUNT(IF(TRUE,A5))": "1", "IF(A5,1,2)": "2", "ISERROR(A5)": "FALSE",
		"A1": "2", "A2": "'3", "A3": "TRUE", "A4": "FALSE", "A6": "'", "B3": "#DIV/0!", "\"\"": "'", "FALSE": "FALSE", "0": "0",
	} {
		e := tree(t, s)
		if got := Formula(e, b); got != value.Literal(want) {
			t.Errorf("%s: %v, not %s", s, got, want)
		}
		hold(t, e, b, p)
	}
}

// P15.2, P15.3: trees and boards by chance.
func TestByChance(t *testing.T) {
	c := byChance(4)
	for range 60 {
		p := c.paper()
		b := p.board()
		for range 300 {
			hold(t, c.tree(1+c.IntN(5)), b, p)
		}
	}
}
