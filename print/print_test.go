package print

import (
	"math"
	"math/rand"
	"slices"
	"strings"
	"testing"

	"cadastre/api"
	"cadastre/parse"
)

func aNum(n int64) api.Exp                     { return api.Exp{K: api.XNum, N: n} }
func aText(s string) api.Exp                   { return api.Exp{K: api.XText, S: s} }
func aBool(n int64) api.Exp                    { return api.Exp{K: api.XBool, N: n} }
func anError(e int) api.Exp                    { return api.Exp{K: api.XErr, E: e} }
func aRef(r api.Ref) api.Exp                   { return api.Exp{K: api.XRef, R: r} }
func aRange(r, r2 api.Ref) api.Exp             { return api.Exp{K: api.XRange, R: r, R2: r2} }
func aNeg(parts ...api.Exp) api.Exp            { return api.Exp{K: api.XNeg, L: parts} }
func aBin(s string, parts ...api.Exp) api.Exp  { return api.Exp{K: api.XBin, S: s, L: parts} }
func aCall(s string, parts ...api.Exp) api.Exp { return api.Exp{K: api.XCall, S: s, L: parts} }
func at(row, col int) api.Ref                  { return api.Ref{Row: row, Col: col} }
func times(n int, e api.Exp) []api.Exp         { return slices.Repeat([]api.Exp{e}, n) }

var (
	one    = aNum(10000)
	two    = aNum(20000)
	three  = aNum(30000)
	range1 = aRange(at(1, 1), at(2, 2))
)

// P9.1: trees by hand, each kind.
func TestFormulasByHand(t *testing.T) {
	for want, e := range map[string]api.Exp{
		"0": {}, "1": one, "1.5": aNum(15000), "0.0001": aNum(1), "0.12": aNum(1200), "10": aNum(100000), "100.01": aNum(1000100), "922337203685477.5807": aNum(math.MaxInt64), "1000000": aNum(10000000000),
		`""`: aText(""), `"a"`: aText("a"), `"a""b"`: aText(`a"b`), `""""`: aText(`"`), `""""""`: aText(`""`), `" "`: aText(" "), `"'"`: aText("'"), `"\"`: aText(`\`), "\"\x00\xff\n\"": aText("\x00\xff\n"), `"TRUE"`: aText("TRUE"), `"1.50"`: aText("1.50"), `"""a"`: aText(`"a`), `"a"""`: aText(`a"`),
		"TRUE": aBool(1), "FALSE": aBool(0),
		"#REF!": anError(1), "#VALUE!": anError(2), "#DIV/0!": anError(3), "#NUM!": anError(4), "#CYCLE!": anError(5),
		"A1": aRef(at(1, 1)), "Z26": aRef(at(26, 26)), "AA27": aRef(at(27, 27)), "AZ1000": aRef(at(1000, 52)),
		"$B$2": aRef(api.Ref{Row: 2, Col: 2, AbsRow: true, AbsCol: true}), "$B2": aRef(api.Ref{Row: 2, Col: 2, AbsCol: true}), "B$2": aRef(api.Ref{Row: 2, Col: 2, AbsRow: true}),
		"SUM(A1:B2)": aCall("SUM", range1), "SUM(B2:A1)": aCall("SUM", aRange(at(2, 2), at(1, 1))), "SUM(A1:A1)": aCall("SUM", aRange(at(1, 1), at(1, 1))), "SUM($A1:B$2)": aCall("SUM", aRange(api.Ref{Row: 1, Col: 1, AbsCol: true}, api.Ref{Row: 2, Col: 2, AbsRow: true})),
		"IF(TRUE,#REF!,1/(2*3))": aCall("IF", aBool(1), anError(1), aBin("/", one, aBin("*", two, three))), "SUM(A1:B2,3)": aCall("SUM", range1, three), "ROUND(A1:B2,A1:B2)": aCall("ROUND", range1, range1), "SUM(SUM(1),-SUM(1,2))": aCall("SUM", aCall("SUM", one), aNeg(aCall("SUM", one, two))), "NOT(1=2)": aCall("NOT", aBin("=", one, two)), "LEFT(\"a\",1)": aCall("LEFT", aText("a"), one),
		"-1": aNeg(one), "--1": aNeg(aNeg(one)), "---1": aNeg(aNeg(aNeg(one))), "-A1": aNeg(aRef(at(1, 1))), "-SUM(1)": aNeg(aCall("SUM", one)), `-"a"`: aNeg(aText("a")), "-TRUE": aNeg(aBool(1)), "-#NUM!": aNeg(anError(4)), "-(1+2)": aNeg(aBin("+", one, two)), "-(1*2)": aNeg(aBin("*", one, two)), "-(1-2)": aNeg(aBin("-", one, two)), "--(1=2)": aNeg(aNeg(aBin("=", one, two))),
		"1-2-3": aBin("-", aBin("-", one, two), three), "1-(2-3)": aBin("-", one, aBin("-", two, three)), "1+(2+3)": aBin("+", one, aBin("+", two, three)), "1*2+3": aBin("+", aBin("*", one, two), three), "1+2*3": aBin("+", one, aBin("*", two, three)), "(1+2)*3": aBin("*", aBin("+", one, two), three), "1*(2+3)": aBin("*", one, aBin("+", two, three)), "-1*2": aBin("*", aNeg(one), two), "1*-2": aBin("*", one, aNeg(two)), "1--2": aBin("-", one, aNeg(two)), "-1-2": aBin("-", aNeg(one), two), "1<2=(3<1)": aBin("=", aBin("<", one, two), aBin("<", three, one)), "(1&2)+3": aBin("+", aBin("&", one, two), three), "1&2+3": aBin("&", one, aBin("+", two, three)), "1>=2&3": aBin(">=", one, aBin("&", two, three)), "(1<>2)&3": aBin("&", aBin("<>", one, two), three), "-(1+2)*-(2-3)": aBin("*", aNeg(aBin("+", one, two)), aNeg(aBin("-", two, three))), "(1=2)*(2=3)": aBin("*", aBin("=", one, two), aBin("=", two, three)),
	} {
		if a := sameOf(t, e); a != (answer{s: want}) {
			t.Errorf("%v, not %s", a, want)
		}
	}
}

// P9.1: numbers, with and without digits behind the dot.
func TestNumbers(t *testing.T) {
	for n := int64(0); n <= 30000; n++ {
		sameOf(t, aNum(n))
	}
	for n := int64(1); n > 0 && n < math.MaxInt64/2; n *= 2 {
		for _, more := range []int64{-1, 0, 1, 10, 100, 1000, 10000, 12000, 12300} {
			sameOf(t, aNum(n+max(more, -n)))
		}
	}
	for n := range int64(20001) {
		sameOf(t, aNum(math.MaxInt64-n))
	}
}

// P9.1: texts, with quotes in them, of all bytes, and of 300.
func TestTexts(t *testing.T) {
	for b := range 256 {
		for c := range 256 {
			sameOf(t, aText(string([]byte{byte(b), byte(c)})))
		}
	}
	for _, s := range []string{"", "a", `"`, `""`, `a"`, `"a`, `"a"`, `a""b`, `"""`, strings.Repeat(`"`, 149), strings.Repeat("a", 298), strings.Repeat("a", 300), strings.Repeat(`"`, 300), strings.Repeat(`a"`, 150)} {
		if a, want := sameOf(t, aText(s)), 2+len(s)+strings.Count(s, `"`); len(a.s) != want {
			t.Errorf("%q has %d bytes, not %d", s, len(a.s), want)
		}
	}
	if a := sameOf(t, aText(strings.Repeat("a", 301))); a != refused(0, api.ErrArg) {
		t.Errorf("a text of 301 bytes: %v", a)
	}
}

// P9.1: references and ranges, with and without $; all places of the sheet.
func TestReferences(t *testing.T) {
	for row := 1; row <= api.MaxRows; row++ {
		for col := 1; col <= api.MaxCols; col++ {
			for abs := range 4 {
				r := api.Ref{Row: row, Col: col, AbsRow: abs&1 != 0, AbsCol: abs&2 != 0}
				if a := written(Formula(aRef(r))); a != (answer{s: refText(r)}) {
					t.Fatalf("%v: %v", r, a)
				}
				r2 := api.Ref{Row: 1001 - row, Col: col/2 + 1, AbsRow: abs&2 != 0, AbsCol: abs&1 == 0}
				if a := written(Formula(aCall("SUM", aRange(r, r2)))); a != (answer{s: "SUM(" + refText(r) + ":" + refText(r2) + ")"}) {
					t.Fatalf("%v to %v: %v", r, r2, a)
				}
			}
		}
	}
}

// P9.1: each function, with all numbers of arguments, of each kind; too few and too many are refused.
func TestCalls(t *testing.T) {
	all := 0
	for bounds, names := range functions {
		for _, name := range strings.Fields(names) {
			all++
			for argument, e := range map[string]api.Exp{"1": one, "A1:B2": range1, "-1": aNeg(one), "1=2": aBin("=", one, two), "1*(1+2)": aBin("*", one, aBin("+", one, two)), "NOT(TRUE)": aCall("NOT", aBool(1)), `","`: aText(",")} {
				for n := range 24 {
					want := answer{s: name + "(" + strings.TrimSuffix(strings.Repeat(argument+",", n), ",") + ")"}
					if n < bounds[0] || n > bounds[1] {
						want = refused(0, api.ErrArg)
					}
					if a := sameOf(t, aCall(name, times(n, e)...)); a != want {
						t.Errorf("%v, not %v", a, want)
					}
				}
			}
		}
	}
	if all != 20 {
		t.Errorf("%d functions", all)
	}
}

// binding is which row of tightness has the sign.
func binding(sign string) int {
	return slices.IndexFunc(tightness, func(list string) bool { return slices.Contains(strings.Fields(list), sign) })
}

// P9.1: each sign against each other one, on its left side and on its right, and a - ahead of, behind and within each: brackets stand where they must, and nowhere else.
func TestSigns(t *testing.T) {
	inBrackets := map[bool]string{true: "(", false: ""}
	closed := map[bool]string{true: ")", false: ""}
	for _, outer := range signs {
		for _, inner := range signs {
			left, right := binding(inner) < binding(outer), binding(inner) <= binding(outer)
			for _, ahead := range []int{0, 1, 2} {
				minus := strings.Repeat("-", ahead)
				neg := func(e api.Exp) api.Exp {
					for range ahead {
						e = aNeg(e)
					}
					return e
				}
				both := aBin(inner, neg(one), neg(two))
				text := minus + "1" + inner + minus + "2"
				for want, e := range map[string]api.Exp{
					inBrackets[left] + text + closed[left] + outer + minus + "3":     aBin(outer, both, neg(three)),
					minus + "3" + outer + inBrackets[right] + text + closed[right]:   aBin(outer, neg(three), both),
					minus + inBrackets[ahead > 0] + text + closed[ahead > 0]:         neg(both),
					"-(" + text + ")" + outer + minus + "3":                          aBin(outer, aNeg(both), neg(three)),
					minus + "3" + outer + "-(" + text + ")":                          aBin(outer, neg(three), aNeg(both)),
					"-(" + minus + "3" + outer + "-(" + text + "))":                  aNeg(aBin(outer, neg(three), aNeg(both))),
					"SUM(" + text + ")" + outer + "SUM(" + text + "," + text + ")":   aBin(outer, aCall("SUM", both), aCall("SUM", both, both)),
					"NOT(" + minus + "A1" + outer + "-SUM(" + text + ",A1:B2)" + ")": aCall("NOT", aBin(outer, neg(aRef(at(1, 1))), aNeg(aCall("SUM", both, range1)))),
				} {
					if a := sameOf(t, e); a != (answer{s: want}) {
						t.Errorf("%v, not %s", a, want)
					}
				}
			}
		}
	}
}

// P9.1: three signs in one another, each on each side.
func TestThreeSigns(t *testing.T) {
	for _, a := range signs {
		for _, b := range signs {
			for _, c := range signs {
				sameOf(t, aBin(a, aBin(b, aBin(c, one, two), three), one))
				sameOf(t, aBin(a, aBin(b, one, aBin(c, one, two)), one))
				sameOf(t, aBin(a, one, aBin(b, aBin(c, one, two), three)))
				sameOf(t, aBin(a, one, aBin(b, three, aBin(c, one, two))))
				sameOf(t, aBin(a, aBin(b, one, two), aBin(c, one, two)))
				sameOf(t, aBin(a, aNeg(aBin(b, one, aNeg(aBin(c, one, two)))), aNeg(two)))
			}
		}
	}
}

// P9.1: trees that are not well made, by hand, and what they are a part of, are refused.
func TestRefusedByHand(t *testing.T) {
	for _, e := range []api.Exp{
		{K: -1}, {K: 9}, {K: math.MaxInt}, {K: math.MinInt}, aNum(-1), aNum(-10000), aNum(math.MinInt64), aText(strings.Repeat("a", 301)), aBool(2), aBool(-1), aBool(10000), anError(0), anError(6), anError(-1), anError(math.MinInt),
		{K: api.XRef}, aRef(at(0, 1)), aRef(at(1, 0)), aRef(at(1001, 1)), aRef(at(1, 53)), aRef(at(-1, -1)), aRange(at(0, 1), at(1, 1)), aRange(at(1, 1), at(1, 53)), {K: api.XRange},
		aNeg(), aNeg(one, one), aNeg(range1), aBin("+"), aBin("+", one), aBin("+", one, one, one), aBin("+", range1, one), aBin("+", one, range1), aBin("", one, one), aBin("(", one, one), aBin(":", aRef(at(1, 1)), aRef(at(2, 2))), aBin(",", one, one), aBin("==", one, one), aBin("+ ", one, one), aBin("^", one, one), aBin("SUM", one, one),
		aCall("SUM"), aCall("SUM", times(21, one)...), aCall("NOT", one, one), aCall("IF", one), aCall("FOO", one), aCall("", one), aCall("sum", one), aCall("+", one, one), aCall("TRUE"), aCall("SUM", aCall("SUM")), aCall("SUM", aNeg(range1)), aCall("SUM", aBin("+", range1, one)),
	} {
		for _, all := range []api.Exp{e, aNeg(e), aNeg(aNeg(e)), aBin("*", one, e), aBin("*", e, one), aCall("SUM", e), aCall("IF", one, aNeg(e), one), aCall("SUM", one, one, aBin("&", e, one))} {
			if a := sameOf(t, all); a != refused(0, api.ErrArg) {
				t.Errorf("%v of a tree that is not well made", a)
			}
		}
	}
	// Ranges are arguments, and nothing else.
	for _, e := range []api.Exp{range1, aNeg(range1), aBin("+", range1, one), aBin("+", one, range1), aCall("SUM", aNeg(range1)), aCall("SUM", range1, aBin("=", one, range1))} {
		if a := sameOf(t, e); a != refused(0, api.ErrArg) {
			t.Errorf("%v of a range where none may be", a)
		}
	}
	for _, e := range []api.Exp{aNeg(aCall("SUM", range1)), aBin("+", aCall("SUM", range1), one)} {
		if a := sameOf(t, e); a.e != api.OK {
			t.Errorf("%v of a range that is an argument", a)
		}
	}
}

// P9.1: fields that play no part are not written, and nothing is refused for them.
func TestOtherFields(t *testing.T) {
	strange := api.Exp{N: -7, S: `"odd`, E: 99, R: at(-1, 2000), R2: api.Ref{Row: 5, AbsRow: true}, L: []api.Exp{{K: 77}, range1}}
	for _, e := range []api.Exp{aNum(15000), aText("a"), aBool(0), aBool(1), anError(3), aRef(at(3, 3)), aNeg(one), aBin("-", one, aBin("-", two, three)), aCall("SUM", one, range1)} {
		other := strange
		other.K = e.K
		switch e.K {
		case api.XNum, api.XBool:
			other.N = e.N
		case api.XText:
			other.S = e.S
		case api.XErr:
			other.E = e.E
		case api.XRef:
			other.R = e.R
		case api.XNeg:
			other.L = e.L
		default:
			other.S, other.L = e.S, e.L
		}
		if a, b := written(Formula(e)), written(Formula(other)); a != b || a.e != api.OK {
			t.Errorf("%v and %v", a, b)
		}
		for _, outer := range []func(e api.Exp) api.Exp{func(e api.Exp) api.Exp { return aNeg(e) }, func(e api.Exp) api.Exp { return aBin("-", e, e) }, func(e api.Exp) api.Exp { return aCall("SUM", e, e) }} {
			if a, b := written(Formula(outer(e))), written(Formula(outer(other))); a != b || a.e != api.OK {
				t.Errorf("%v and %v", a, b)
			}
		}
	}
	range2 := strange
	range2.K, range2.R, range2.R2 = api.XRange, range1.R, range1.R2
	if a := written(Formula(aCall("SUM", range2))); a != (answer{s: "SUM(A1:B2)"}) {
		t.Errorf("a range: %v", a)
	}
	if a := written(Formula(api.Exp{L: []api.Exp{}})); a != (answer{s: "0"}) {
		t.Errorf("an empty list: %v", a)
	}
}

// wraps put a tree into another one, one deeper.
var wraps = []func(e api.Exp) api.Exp{
	func(e api.Exp) api.Exp { return aNeg(e) },
	func(e api.Exp) api.Exp { return aBin("-", e, one) },
	func(e api.Exp) api.Exp { return aBin("-", one, e) },
	func(e api.Exp) api.Exp { return aBin("=", one, e) },
	func(e api.Exp) api.Exp { return aBin("*", e, one) },
	func(e api.Exp) api.Exp { return aCall("ABS", e) },
	func(e api.Exp) api.Exp { return aCall("IF", one, e, two) },
}

// P9.1, P9.3: trees 40 deep and deeper, each kind alone and by turns with each other one.
func TestDeep(t *testing.T) {
	for i, wrap := range wraps {
		for j, other := range wraps {
			e := one
			for deep := 1; deep <= 90; deep++ {
				if a := sameOf(t, e); a.e != api.OK {
					t.Errorf("%d and %d by turns, %d deep: %v", i, j, deep, a)
				}
				if deep%2 == 0 {
					e = wrap(e)
				} else {
					e = other(e)
				}
			}
		}
	}
}

// P9.1: texts of far more than 300 bytes, and trees of 65536 in one another, are written as all others.
func TestGreat(t *testing.T) {
	const n = 1<<16 - 2
	for i, c := range []struct{ ahead, core, behind string }{
		{"-", `-"a"`, ""}, {"", `"a"-1`, "-1"}, {"1-(", `1-"a"`, ")"}, {"1=(", `1="a"`, ")"}, {"", `"a"*1`, "*1"}, {"ABS(", `ABS("a")`, ")"}, {"IF(1,", `IF(1,"a",2)`, ",2)"},
	} {
		good, bad := aText("a"), aNum(-1)
		for range n + 1 {
			good, bad = wraps[i](good), wraps[i](bad)
		}
		if a := written(Formula(good)); a != (answer{s: strings.Repeat(c.ahead, n) + c.core + strings.Repeat(c.behind, n)}) {
			t.Errorf("%d: %d bytes: %v", i, len(a.s), a)
		}
		if a := written(Formula(bad)); a != refused(0, api.ErrArg) {
			t.Errorf("%d: %v", i, a)
		}
	}
	for _, e := range []api.Exp{aCall("SUM", times(20, aText(strings.Repeat(`"`, 300)))...), aCall("CONCAT", times(20, aCall("SUM", times(20, aCall("AND", times(20, aBin("*", aBin("<", one, two), three))...))...))...)} {
		if a := sameOf(t, e); a.e != api.OK || len(a.s) < 12000 {
			t.Errorf("%d bytes, %d", len(a.s), a.e)
		}
	}
}

// P9.3: texts of just 300 bytes are read again; those of more are not, but they are written.
func TestLong(t *testing.T) {
	for n := 290; n <= 310; n++ {
		a := sameOf(t, aBin("&", aText(strings.Repeat("a", 200)), aText(strings.Repeat("b", n-205))))
		if a.e != api.OK || len(a.s) != n {
			t.Errorf("%d bytes, not %d: %v", len(a.s), n, a)
		}
		if _, _, err := parse.Formula(a.s); (err == api.OK) != (n <= 300) {
			t.Errorf("%d bytes are read: %d", n, err)
		}
	}
}

// P9.1: what is handed in is not changed, its spare room neither.
func TestHandedIn(t *testing.T) {
	room := []api.Exp{aNeg(one), aBin("-", one, two), range1, aText(`"`)}
	e := aCall("SUM", room[:2:3]...)
	if a := written(Formula(e)); a != (answer{s: "SUM(-1,1-2)"}) {
		t.Error(a)
	}
	if !slices.EqualFunc(room, []api.Exp{aNeg(one), aBin("-", one, two), range1, aText(`"`)}, parse.Same) {
		t.Error("what was handed in is changed")
	}
}

// P9.1, P9.3: trees that are made by chance.
func TestMadeTrees(t *testing.T) {
	m := maker{rand.New(rand.NewSource(9))}
	back := 0
	for range 6000 {
		e := m.tree(1 + m.Intn(6))
		a := sameOf(t, e)
		if a.e == api.OK && len(a.s) <= 300 {
			back++
		}
		sameOf(t, m.spoiltTree(e))
	}
	if back < 4000 {
		t.Errorf("only %d of 300 bytes or less", back)
	}
}

// P9.3, P9.4: of all pairs of small trees just those have one text that are the same.
func TestOneTextOneTree(t *testing.T) {
	var list []api.Exp
	for _, e := range smallTrees() {
		if parse.Well(e) {
			list = append(list, e)
		}
	}
	texts := make([]string, len(list))
	for i, e := range list {
		texts[i] = sameOf(t, e).s
	}
	for i, a := range list {
		for j, b := range list {
			if (texts[i] == texts[j]) != parse.Same(a, b) {
				t.Fatalf("%q and %q: %t", texts[i], texts[j], parse.Same(a, b))
			}
		}
	}
	if len(list) < 1000 {
		t.Errorf("only %d trees", len(list))
	}
}

// smallTrees are trees of at most three in one another, well made and not.
func smallTrees() []api.Exp {
	list := []api.Exp{aNum(0), aNum(15000), aNum(-1), aText(""), aText(`"`), aBool(0), aBool(1), anError(1), anError(6), aRef(at(1, 1)), aRef(api.Ref{Row: 1, Col: 1, AbsRow: true}), aRef(api.Ref{Row: 1, Col: 1, AbsCol: true}), range1, aRange(at(2, 2), at(1, 1))}
	for range 2 {
		var more []api.Exp
		for i := 0; i < len(list); i += 1 + len(list)/60 {
			a, b := list[i], list[(7*i+3)%len(list)]
			more = append(more, aNeg(a), aNeg(b), aCall("SUM", a), aCall("SUM", a, b), aCall("IF", b, a, a), aCall("NOT", b))
			for _, sign := range signs {
				more = append(more, aBin(sign, a, b), aBin(sign, b, a))
			}
		}
		list = append(list, more...)
	}
	return list
}
