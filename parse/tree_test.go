package parse

import (
	"fmt"
	"math"
	"slices"
	"strings"
	"testing"

	"cadastre/api"
)

func aNum(n int64) api.Exp                     { return api.Exp{K: api.XNum, N: n} }
func aText(s string) api.Exp                   { return api.Exp{K: api.XText, S: s} }
func aBool(n int64) api.Exp                    { return api.Exp{K: api.XBool, N: n} }
func anError(e int) api.Exp                    { return api.Exp{K: api.XErr, E: e} }
func aRef(row, col int) api.Exp                { return api.Exp{K: api.XRef, R: api.Ref{Row: row, Col: col}} }
func aNeg(parts ...api.Exp) api.Exp            { return api.Exp{K: api.XNeg, L: parts} }
func aBin(s string, parts ...api.Exp) api.Exp  { return api.Exp{K: api.XBin, S: s, L: parts} }
func aCall(s string, parts ...api.Exp) api.Exp { return api.Exp{K: api.XCall, S: s, L: parts} }
func times(n int, e api.Exp) []api.Exp         { return slices.Repeat([]api.Exp{e}, n) }
func aRange(row, col, row2, col2 int) api.Exp {
	return api.Exp{K: api.XRange, R: api.Ref{Row: row, Col: col}, R2: api.Ref{Row: row2, Col: col2}}
}

// P8.4: trees that are well made, by hand.
func TestWellByHand(t *testing.T) {
	one := aNum(10000)
	for _, e := range []api.Exp{
		{}, aNum(0), aNum(1), aNum(math.MaxInt64), aText(""), aText("a\x00\xff"), aText(strings.Repeat("a", 300)), aBool(0), aBool(1),
		anError(1), anError(2), anError(3), anError(4), anError(5), aRef(1, 1), aRef(1000, 52), {K: api.XRef, R: api.Ref{Row: 2, Col: 3, AbsRow: true, AbsCol: true}},
		aNeg(one), aNeg(aNeg(one)), aNeg(aText("a")), aBin("+", one, one), aBin("<>", aNeg(one), aBin("&", one, aText(""))),
		aCall("SUM", one), aCall("SUM", aRange(1, 1, 2, 2)), aCall("SUM", aRange(2, 2, 1, 1)), aCall("SUM", aRange(1000, 52, 1, 1), one), aCall("IF", one, one), aCall("IF", one, one, aCall("NOT", one)), aCall("ROUND", aRange(1, 1, 1, 1), aRange(1, 1, 1, 1)), aCall("SUM", times(20, aRange(1, 1, 9, 9))...),
	} {
		if !Well(e) {
			t.Errorf("%s is well made", shape(e))
		}
	}
	for _, sign := range strings.Fields(strings.Join(tightness, " ")) {
		if !Well(aBin(sign, one, one)) {
			t.Errorf("%s stands between two", sign)
		}
	}
}

// P8.4: trees that are not well made, by hand; nor is what they are a part of.
func TestNotWellByHand(t *testing.T) {
	one, range1 := aNum(10000), aRange(1, 1, 2, 2)
	for _, e := range []api.Exp{
		{K: -1}, {K: 9}, {K: 10}, {K: math.MaxInt}, {K: math.MinInt}, {K: 256},
		aNum(-1), aNum(-math.MaxInt64), aNum(math.MinInt64), aText(strings.Repeat("a", 301)), aText(strings.Repeat("a", 1<<16)), aBool(2), aBool(-1), aBool(10000), aBool(math.MinInt64), anError(0), anError(6), anError(-1), anError(math.MaxInt),
		{K: api.XRef}, aRef(0, 1), aRef(1, 0), aRef(1001, 1), aRef(1, 53), aRef(-1, 1), aRef(1, -1), aRef(math.MinInt, math.MaxInt),
		range1, aRange(0, 0, 0, 0), aRange(1, 1, 1, 1),
		aNeg(), aNeg(one, one), aNeg(aNum(-1)), aNeg(range1), aNeg(api.Exp{K: 9}),
		aBin("+"), aBin("+", one), aBin("+", one, one, one), aBin("+", aNum(-1), one), aBin("+", one, aNum(-1)), aBin("+", range1, one), aBin("+", one, range1),
		aCall("SUM"), aCall("SUM", times(21, one)...), aCall("SUM", aNum(-1)), aCall("SUM", one, aNum(-1)), aCall("SUM", aRange(0, 1, 2, 2)), aCall("SUM", aRange(1, 1, 2, 53)), aCall("SUM", aRange(1, 53, 2, 2)), aCall("SUM", aRange(1, 1, 1001, 2)), aCall("SUM", aNeg(range1)), aCall("SUM", aBin("+", range1, range1)), aCall("SUM", one, aCall("SUM")), aCall("NOT", one, one), aCall("IF", one), aCall("IF", times(4, one)...), aCall("LEFT", times(3, one)...), aCall("ROUND", one), aCall("ROUND", times(3, one)...),
		aCall("sum", one), aCall("", one), aCall("TRUE", one), aCall("+", one, one), aCall("A1", one), aCall("FOO", one), aCall("FOO"), aCall("SUM ", one),
	} {
		for _, whole := range []api.Exp{e, aNeg(e), aNeg(aNeg(aNeg(e))), aBin("*", one, e), aBin("*", e, one), aCall("IF", one, aNeg(e)), aCall("SUM", one, aBin("&", e, one), one)} {
			if Well(whole) {
				t.Errorf("%s is not well made", shape(whole))
			}
		}
		// A range is well made just as an argument.
		if isRange := alike(e, range1) || alike(e, aRange(1, 1, 1, 1)); Well(aCall("SUM", e)) != isRange || Well(aCall("SUM", one, e)) != isRange || Well(aCall("IF", e, one, e)) != isRange {
			t.Errorf("%s as an argument", shape(e))
		}
	}
	for _, sign := range []string{"", " ", "(", ")", ",", ":", "==", "=<", "=>", "><", "!=", "+ ", " +", "++", "^", "%", "neg", "SUM", "&&", "\x00"} {
		if Well(aBin(sign, one, one)) {
			t.Errorf("%q stands between no two", sign)
		}
	}
}

// leaves are trees without parts, well made and not.
func leaves() []api.Exp {
	return []api.Exp{
		aNum(0), aNum(15000), aNum(-10000), aText(""), aText(`"a"`), aBool(0), aBool(1), aBool(2), anError(0), anError(1), anError(5), anError(6),
		aRef(1, 1), aRef(1000, 52), aRef(0, 1), aRef(1, 53), {K: api.XRef, R: api.Ref{Row: 1, Col: 1, AbsRow: true}}, {K: api.XRef, R: api.Ref{Row: 1, Col: 1, AbsCol: true}},
		aRange(1, 1, 2, 2), aRange(2, 2, 1, 1), aRange(1, 1, 0, 1), aRange(1001, 1, 1, 1), {K: api.XRange, R: api.Ref{Row: 1, Col: 1}, R2: api.Ref{Row: 2, Col: 2, AbsRow: true}}, {K: -1}, {K: 9},
	}
}

// small are trees of at most three in one another, well made and not.
func small() []api.Exp {
	list := leaves()
	for range 2 {
		var more []api.Exp
		// A few of those that came last are enough to show what a part may be.
		for i := 0; i < len(list); i += 1 + len(list)/40 {
			a := list[i]
			b := list[(7*i+3)%len(list)]
			more = append(more, aNeg(a), aNeg(), aNeg(a, b), aBin("+", a, b), aBin("<=", b, a), aBin("&", a), aBin("+", a, b, a), aBin(",", a, b), aBin("", a, b), aCall("SUM", a), aCall("SUM", b, a, a), aCall("SUM"), aCall("IF", a), aCall("IF", a, b), aCall("IF", a, b, a), aCall("IF", a, a, b, b), aCall("NOT", a), aCall("NOT", a, b), aCall("FOO", a))
		}
		list = append(list, more...)
	}
	return list
}

// text is a formula that says a tree, each part of it in brackets that need be; of what can't be said something that is no formula, or another.
func text(e api.Exp, argument bool) string {
	var parts []string
	for _, part := range e.L {
		parts = append(parts, text(part, e.K == api.XCall))
	}
	switch e.K {
	case api.XNum:
		return fmt.Sprintf("%g", float64(e.N)/10000)
	case api.XText:
		return `"` + strings.ReplaceAll(e.S, `"`, `""`) + `"`
	case api.XBool:
		return map[int64]string{0: "FALSE", 1: "TRUE"}[e.N]
	case api.XErr:
		return map[int]string{1: "#REF!", 2: "#VALUE!", 3: "#DIV/0!", 4: "#NUM!", 5: "#CYCLE!"}[e.E]
	case api.XRef:
		return refText(e.R)
	case api.XRange:
		if argument {
			return refText(e.R) + ":" + refText(e.R2)
		}
		return "(" + refText(e.R) + ":" + refText(e.R2) + ")"
	case api.XNeg:
		return "-(" + strings.Join(parts, ",") + ")"
	case api.XBin:
		return "((" + strings.Join(parts, ")"+e.S+"(") + "))"
	case api.XCall:
		return e.S + "(" + strings.Join(parts, ",") + ")"
	}
	return "?"
}

// refText is a reference as a word, wherever it is.
func refText(r api.Ref) string {
	dollar := map[bool]string{true: "$"}
	name := string(rune('A' + (r.Col+25)%26))
	if r.Col > 26 {
		name = string(rune('A'+(r.Col-27)/26)) + name
	}
	return fmt.Sprintf("%s%s%s%d", dollar[r.AbsCol], name, dollar[r.AbsRow], r.Row)
}

// P8.4: Well tells just which trees Formula gives: a small tree is well made if there is a formula that comes to it.
func TestWellIsGiven(t *testing.T) {
	well := 0
	for _, e := range small() {
		x, _, err := Formula(text(e, false))
		given := err == api.OK && alike(x, e)
		if Well(e) != given {
			t.Errorf("Well of %s, that is %q: %t", shape(e), text(e, false), Well(e))
		}
		if given {
			well++
		}
		argument := aCall("SUM", aNum(0), e)
		x, _, err = Formula(text(argument, false))
		if Well(argument) != (err == api.OK && alike(x, argument)) {
			t.Errorf("Well of %s: %t", shape(argument), Well(argument))
		}
	}
	if all := len(small()); well < 100 || well > all-100 {
		t.Errorf("%d of %d well made", well, all)
	}
}

// played are the fields of a kind that play a part.
var played = map[int]string{api.XNum: "N", api.XText: "S", api.XBool: "N", api.XErr: "E", api.XRef: "R", api.XRange: "R R2", api.XNeg: "L", api.XBin: "S L", api.XCall: "S L"}

// changes are the fields' names, and what makes another of each.
func changes() map[string]func(e *api.Exp) {
	return map[string]func(e *api.Exp){
		"N":  func(e *api.Exp) { e.N = 1 - e.N },
		"S":  func(e *api.Exp) { e.S += "x" },
		"E":  func(e *api.Exp) { e.E++ },
		"R":  func(e *api.Exp) { e.R.Row++ },
		"R2": func(e *api.Exp) { e.R2.Col++ },
		"L":  func(e *api.Exp) { e.L = append(slices.Clip(e.L), aNum(-7)) },
	}
}

// P8.4: fields that play no part change nothing in Well, Same and Deep; fields that do make another tree.
func TestFields(t *testing.T) {
	trees := append(small(), api.Exp{K: 77}, api.Exp{K: math.MinInt})
	for _, e := range trees {
		for name, change := range changes() {
			other := e
			change(&other)
			plays := slices.Contains(strings.Fields(played[e.K]), name)
			for _, pair := range [][2]api.Exp{{e, other}, {other, e}, {aNeg(e), aNeg(other)}, {aBin("+", e, e), aBin("+", e, other)}, {aCall("SUM", e, e), aCall("SUM", other, e)}} {
				if Same(pair[0], pair[1]) == plays {
					t.Errorf("Same of %s and %s, another %s: %t", shape(pair[0]), shape(pair[1]), name, !plays)
				}
				if !plays && (Well(pair[0]) != Well(pair[1]) || Deep(pair[0]) != Deep(pair[1])) {
					t.Errorf("%s plays a part in %s", name, shape(pair[0]))
				}
			}
		}
		for _, change := range []func(r *api.Ref){func(r *api.Ref) { r.Row-- }, func(r *api.Ref) { r.Col-- }, func(r *api.Ref) { r.AbsRow = !r.AbsRow }, func(r *api.Ref) { r.AbsCol = !r.AbsCol }} {
			one, two := e, e
			change(&one.R)
			change(&two.R2)
			if Same(e, one) != (e.K != api.XRef && e.K != api.XRange) || Same(e, two) != (e.K != api.XRange) {
				t.Errorf("Same of %s and another place", shape(e))
			}
		}
		for k := -1; k < 10; k++ {
			other := e
			other.K = k
			if Same(e, other) != (k == e.K) {
				t.Errorf("Same of %s as kind %d", shape(e), k)
			}
		}
	}
}

// P8.4: of all pairs of small trees those are the same whose texts, with all that plays a part, are.
func TestSamePairs(t *testing.T) {
	list := small()
	signs := make([]string, len(list))
	for i, e := range list {
		signs[i] = told(e)
	}
	for i, a := range list {
		for j, b := range list {
			if Same(a, b) != (signs[i] == signs[j]) {
				t.Fatalf("Same of %s and %s: %t", signs[i], signs[j], Same(a, b))
			}
		}
	}
}

// told is a text of all that plays a part in a tree.
func told(e api.Exp) string {
	s := fmt.Sprint("{", e.K)
	for _, field := range strings.Fields(played[e.K]) {
		switch field {
		case "N":
			s += fmt.Sprint(" ", e.N)
		case "S":
			s += fmt.Sprintf(" %q", e.S)
		case "E":
			s += fmt.Sprint(" ", e.E)
		case "R":
			s += fmt.Sprint(" ", e.R)
		case "R2":
			s += fmt.Sprint(" ", e.R2)
		case "L":
			for _, part := range e.L {
				s += told(part)
			}
		}
	}
	return s + "}"
}

// P8.4: how deep trees are, by hand, and as many as the layers are that can be taken off.
func TestDeepTrees(t *testing.T) {
	one := aNum(10000)
	for want, list := range map[int][]api.Exp{
		1: {{}, one, aText("a"), aRef(1, 1), aRange(1, 1, 2, 2), aNeg(), aBin("+"), aCall("SUM"), {K: 9}, {K: -1}, {K: 9, L: []api.Exp{one}}, {K: api.XNum, L: []api.Exp{aNeg(one)}}, {K: api.XRange, L: []api.Exp{one}}},
		2: {aNeg(one), aBin("+", one, one), aCall("SUM", one, one, one), aCall("SUM", aRange(1, 1, 2, 2)), aNeg(one, one), aCall("FOO", one)},
		3: {aNeg(aNeg(one)), aBin("+", aNeg(one), one), aBin("+", one, aNeg(one)), aCall("IF", one, aNeg(one), one), aCall("IF", aNeg(one), one, aNeg(one))},
		4: {aBin("+", aNeg(one), aNeg(aNeg(one))), aBin("+", aNeg(aNeg(one)), one), aCall("SUM", one, aBin("*", one, aNeg(one)), aNeg(one))},
	} {
		for _, e := range list {
			if Deep(e) != want {
				t.Errorf("Deep of %s: %d, not %d", shape(e), Deep(e), want)
			}
		}
	}
	for _, e := range small() {
		if Deep(e) != layers(e) {
			t.Errorf("Deep of %s: %d, not %d", told(e), Deep(e), layers(e))
		}
	}
	for s, want := range map[string]int{"1": 1, "((1))": 1, "-A1*2": 3, "SUM(A1:B2,3)": 2, "1+2+3+4": 4, "1+(2+(3+4))": 4, strings.Repeat("-", 40) + "1": 41, strings.Repeat("(", 40) + "1" + strings.Repeat(")", 40): 1} {
		if x, _, e := Formula(s); e != api.OK || Deep(x) != want {
			t.Errorf("Deep of %q: %d, not %d", s, Deep(x), want)
		}
	}
}

// layers is how often a tree's outermost layer can be taken off.
func layers(e api.Exp) int {
	n := 0
	for layer := []api.Exp{e}; len(layer) > 0; n++ {
		var next []api.Exp
		for _, e := range layer {
			if strings.Contains(played[e.K], "L") {
				next = append(next, e.L...)
			}
		}
		layer = next
	}
	return n
}

// P8.4: trees may be far deeper than formulas, and far wider.
func TestGreatTrees(t *testing.T) {
	for _, wrap := range []func(e api.Exp) api.Exp{
		func(e api.Exp) api.Exp { return aNeg(e) },
		func(e api.Exp) api.Exp { return aBin("&", e, aNum(1)) },
		func(e api.Exp) api.Exp { return aBin("&", aNum(1), e) },
		func(e api.Exp) api.Exp { return aCall("IF", aNum(1), e, aNum(2)) },
	} {
		good, bad := aNum(1), aNum(-1)
		for range 1<<16 - 1 {
			good, bad = wrap(good), wrap(bad)
		}
		if !Well(good) || Well(bad) || Deep(good) != 1<<16 || Same(good, bad) || !Same(good, good) {
			t.Errorf("a tree of 65536 in one another: %t, %t, %d", Well(good), Well(bad), Deep(good))
		}
	}
	wide := aCall("SUM", times(1<<16, aNum(1))...)
	if Well(wide) || Deep(wide) != 2 || !Same(wide, aCall("SUM", times(1<<16, aNum(1))...)) || Same(wide, aCall("SUM", times(1<<16-1, aNum(1))...)) {
		t.Error("a wide tree")
	}
}

// P8.4: nil and empty lists are alike, and what is asked about is not changed, its spare room neither.
func TestHandedIn(t *testing.T) {
	if !Same(api.Exp{K: api.XCall, L: []api.Exp{}}, api.Exp{K: api.XCall}) || !Well(api.Exp{L: []api.Exp{}}) || Deep(api.Exp{K: api.XNeg, L: []api.Exp{}}) != 1 {
		t.Error("an empty list")
	}
	room := []api.Exp{aNum(1), aNeg(aNum(2)), aNum(3), aNum(4)}
	e := aCall("SUM", room[:2:3]...)
	Well(e)
	Same(e, e)
	Deep(e)
	if !slices.EqualFunc(room, []api.Exp{aNum(1), aNeg(aNum(2)), aNum(3), aNum(4)}, alike) {
		t.Error("what was handed in is changed")
	}
}
