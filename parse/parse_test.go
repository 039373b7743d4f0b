package parse

import (
	"fmt"
	"math/rand"
	"slices"
	"strings"
	"testing"

	"cadastre/api"
	"cadastre/lex"
)

// P8.1, P8.3: by hand, the chapter's examples among them.
func TestFormulasByHand(t *testing.T) {
	for s, want := range map[string]string{
		"-A1*2":                                 "[* [neg r1c1] 2]",
		"SUM(A1:B2,3)":                          "[SUM r1c1..r2c2 3]",
		"1":                                     "1",
		"1.5":                                   "1.5",
		"0":                                     "0",
		`"a""b"`:                                `"a\"b"`,
		`""`:                                    `""`,
		"#REF!":                                 "#1",
		"#CYCLE!":                               "#5",
		"TRUE":                                  "T",
		"FALSE":                                 "F",
		"$AZ$1000":                              "$r1000$c52",
		"A$1":                                   "$r1c1",
		"$A1":                                   "r1$c1",
		"((1))":                                 "1",
		"1-2-3":                                 "[- [- 1 2] 3]",
		"1-(2-3)":                               "[- 1 [- 2 3]]",
		"8/4/2*2":                               "[* [/ [/ 8 4] 2] 2]",
		"1=2=3":                                 "[= [= 1 2] 3]",
		"1<2>3<>4<=5>=6":                        "[>= [<= [<> [> [< 1 2] 3] 4] 5] 6]",
		"1=2&3+4*-5":                            "[= 1 [& 2 [+ 3 [* 4 [neg 5]]]]]",
		"-5*4+3&2=1":                            "[= [& [+ [* [neg 5] 4] 3] 2] 1]",
		"--1":                                   "[neg [neg 1]]",
		"1--1":                                  "[- 1 [neg 1]]",
		"1---1":                                 "[- 1 [neg [neg 1]]]",
		"2*-3":                                  "[* 2 [neg 3]]",
		"-2-3":                                  "[- [neg 2] 3]",
		"-(2-3)":                                "[neg [- 2 3]]",
		"-SUM(1)*2":                             "[* [neg [SUM 1]] 2]",
		"1=-2":                                  "[= 1 [neg 2]]",
		"1&-2&3":                                "[& [& 1 [neg 2]] 3]",
		"IF(A1>=2,TRUE,#NUM!)":                  "[IF [>= r1c1 2] T #4]",
		"SUM(B2:A1)":                            "[SUM r2c2..r1c1]",
		"SUM(A$1:$A2,A1:A1)":                    "[SUM $r1c1..r2$c1 r1c1..r1c1]",
		"ROUND(A1:B2,A1:B2)":                    "[ROUND r1c1..r2c2 r1c1..r2c2]",
		"SUM((A1),(1),A1)":                      "[SUM r1c1 1 r1c1]",
		"SUM(SUM(A1:A2),-SUM(1,2))":             "[SUM [SUM r1c1..r2c1] [neg [SUM 1 2]]]",
		"SUM(1)+SUM(2)":                         "[+ [SUM 1] [SUM 2]]",
		`SUM($A1:B2, 3)*-2 + 1 < "x" & TRUE`:    `[< [+ [* [SUM r1$c1..r2c2 3] [neg 2]] 1] [& "x" T]]`,
		` ( 1 + 2 ) * LEFT ( "a" , 1 ) `:        `[* [+ 1 2] [LEFT "a" 1]]`,
		`IF(NOT(A1="SUM("),CONCAT(1,"),",2),0)`: `[IF [NOT [= r1c1 "SUM("]] [CONCAT 1 ")," 2] 0]`,
	} {
		if a := same(t, s); a.e != api.OK || a.at != 0 || shape(a.tree) != want {
			t.Errorf("Formula of %q: %v, not %s", s, a, want)
		}
	}
}

// P8.3: by hand, the place and the error of the first token that can't be.
func TestRefusedByHand(t *testing.T) {
	for s, want := range map[string]answer{
		"": refused(0, api.ErrForm), " ": refused(1, api.ErrForm), "    ": refused(4, api.ErrForm),
		"()": refused(1, api.ErrForm), "(": refused(1, api.ErrForm), ")": refused(0, api.ErrForm), "(1": refused(2, api.ErrForm), "1)": refused(1, api.ErrForm), "((1)": refused(4, api.ErrForm), "(1))": refused(3, api.ErrForm), "(1,2)": refused(2, api.ErrForm), "(1)(2)": refused(3, api.ErrForm), "2(1)": refused(1, api.ErrForm),
		"1 2": refused(2, api.ErrForm), "A1 B1": refused(3, api.ErrForm), `"a" "b"`: refused(4, api.ErrForm), "1 #REF!": refused(2, api.ErrForm), "TRUE FALSE": refused(5, api.ErrForm), "1A1": refused(1, api.ErrForm),
		"1+": refused(2, api.ErrForm), "1+ ": refused(3, api.ErrForm), "+1": refused(0, api.ErrForm), "1++1": refused(2, api.ErrForm), "1-+1": refused(2, api.ErrForm), "-": refused(1, api.ErrForm), "-+1": refused(1, api.ErrForm), "*1": refused(0, api.ErrForm), "1*/2": refused(2, api.ErrForm), "=1": refused(0, api.ErrForm), "1==2": refused(2, api.ErrForm), "1<>=2": refused(3, api.ErrForm), "&1": refused(0, api.ErrForm), "-(": refused(2, api.ErrForm), "(-)": refused(2, api.ErrForm),
		",": refused(0, api.ErrForm), "1,2": refused(1, api.ErrForm), ":": refused(0, api.ErrForm),
		"true": refused(0, api.ErrForm), "True": refused(0, api.ErrForm), "TRUE(": refused(4, api.ErrForm), "TRUE()": refused(4, api.ErrForm), "TRUE1": refused(0, api.ErrForm), "$TRUE": refused(0, api.ErrForm),
		"a1": refused(0, api.ErrForm), "A": refused(0, api.ErrForm), "A0": refused(0, api.ErrForm), "A01": refused(0, api.ErrForm), "A1001": refused(0, api.ErrForm), "BA1": refused(0, api.ErrForm), "$": refused(0, api.ErrForm), "$A$": refused(0, api.ErrForm), "A$$1": refused(0, api.ErrForm), "A1_": refused(0, api.ErrForm), "A1$": refused(0, api.ErrForm), "1+A1001": refused(2, api.ErrForm), "A1(": refused(2, api.ErrForm), "A1(1)": refused(2, api.ErrForm),
		"SUM": refused(3, api.ErrForm), "SUM ": refused(4, api.ErrForm), "SUM+1": refused(3, api.ErrForm), "SUM 1": refused(4, api.ErrForm), "SUM,": refused(3, api.ErrForm), "SUM(": refused(4, api.ErrForm), "SUM()": refused(4, api.ErrForm), "SUM(1": refused(5, api.ErrForm), "SUM(,1)": refused(4, api.ErrForm), "SUM(1,)": refused(6, api.ErrForm), "SUM(1,,2)": refused(6, api.ErrForm), "SUM(1 2)": refused(6, api.ErrForm), "SUM(1))": refused(6, api.ErrForm), "SUM((1,2))": refused(6, api.ErrForm), "sum(1)": refused(0, api.ErrForm), "Sum(1)": refused(0, api.ErrForm), "FOO(1)": refused(0, api.ErrForm), "SUM1(1)": refused(0, api.ErrForm), "AZ1(1)": refused(3, api.ErrForm), "SUMX(1)": refused(0, api.ErrForm), "$SUM(1)": refused(0, api.ErrForm), `"SUM"(1)`: refused(5, api.ErrForm), "1+FOO": refused(2, api.ErrForm), "SUM SUM(1)": refused(4, api.ErrForm),
		"ROUND(1)": refused(7, api.ErrForm), "ROUND(1,2,3)": refused(9, api.ErrForm), "ROUND(1 2": refused(8, api.ErrForm), "ROUND(1": refused(7, api.ErrForm), "ROUND(1+": refused(8, api.ErrForm), "NOT(1,": refused(5, api.ErrForm), "NOT(1,2": refused(5, api.ErrForm), "LEFT(1,2,": refused(8, api.ErrForm), "IF(1)": refused(4, api.ErrForm), "IF(1,2,3,4)": refused(8, api.ErrForm), "IF(IF(1),2)": refused(7, api.ErrForm),
		"A1:B2": refused(2, api.ErrForm), "(A1:B2)": refused(3, api.ErrForm), "-A1:B2": refused(3, api.ErrForm), "1+A1:B2": refused(4, api.ErrForm), "SUM(A1:)": refused(7, api.ErrForm), "SUM(A1:": refused(7, api.ErrForm), "SUM(:A1)": refused(4, api.ErrForm), "SUM(A1:B2": refused(9, api.ErrForm), "SUM(A1:B2:C3)": refused(9, api.ErrForm), "SUM(A1:B2+1)": refused(9, api.ErrForm), "SUM(1+A1:B2)": refused(8, api.ErrForm), "SUM(-A1:B2)": refused(7, api.ErrForm), "SUM((A1):B2)": refused(8, api.ErrForm), "SUM((A1:B2))": refused(7, api.ErrForm), "SUM(A1:(B2))": refused(7, api.ErrForm), "SUM(A1:-B2)": refused(7, api.ErrForm), "SUM(A1:1)": refused(7, api.ErrForm), "SUM(1:2)": refused(5, api.ErrForm), "SUM(A1:B1001)": refused(7, api.ErrForm), "SUM(A1:TRUE)": refused(7, api.ErrForm), "SUM(TRUE:A1)": refused(8, api.ErrForm), "SUM(A1:SUM(1))": refused(7, api.ErrForm), `SUM(A1:"B2")`: refused(7, api.ErrForm), `SUM("A1":B2)`: refused(8, api.ErrForm), "SUM(A1::B2)": refused(7, api.ErrForm), "SUM(A1:#REF!)": refused(7, api.ErrForm), "SUM(A1:B2 C3)": refused(10, api.ErrForm), "SUM(1,A1:B2)+A1:B2": refused(15, api.ErrForm), "SUM(A1+B2:C3)": refused(9, api.ErrForm),
		`1"+"2`: refused(1, api.ErrForm), `1 "=" 2`: refused(2, api.ErrForm), `"-"1`: refused(3, api.ErrForm), `"("1)`: refused(3, api.ErrForm), `SUM"("1)`: refused(3, api.ErrForm), `SUM(1")"`: refused(5, api.ErrForm), `ROUND(1","2)`: refused(7, api.ErrForm), `SUM(A1":"B2)`: refused(6, api.ErrForm),
		"1?": refused(1, api.ErrForm), `1+"a`: refused(2, api.ErrForm), ")?": refused(1, api.ErrForm), ") 99999999999999999999": refused(2, api.ErrLong), "1;2": refused(1, api.ErrForm), "{1}": refused(0, api.ErrForm),
	} {
		if a := same(t, s); !a.is(want) {
			t.Errorf("Formula of %q: %v, not %v", s, a, want)
		}
	}
}

// P8.1: each sign against each other one: the tighter one takes what is between, and of two that bind alike the left one.
func TestSigns(t *testing.T) {
	for i, looser := range tightness {
		for j, tighter := range tightness {
			for _, a := range strings.Fields(looser) {
				for _, b := range strings.Fields(tighter) {
					want := fmt.Sprintf("[%s [%s 1 2] 3]", b, a)
					if i < j {
						want = fmt.Sprintf("[%s 1 [%s 2 3]]", a, b)
					}
					if x := same(t, "1"+a+"2"+b+"3"); shape(x.tree) != want {
						t.Errorf("1%s2%s3: %v, not %s", a, b, x, want)
					}
					same(t, "-1"+a+"-2"+b+"--3")
				}
			}
		}
	}
}

// P8.1, P8.3: all rows of a few pieces that begin as a formula does, and each piece behind them.
func TestGrown(t *testing.T) {
	for _, c := range []struct {
		pieces string
		most   int
	}{
		{`1 "a" #REF! TRUE A1 FOO SUM NOT IF LEFT MOD ( ) , : + - * / & = <>`, 4},
		{"A1 : , ( ) SUM", 9},
		{"A1 ( ) - + SUM", 8},
		{"1 , ( ) NOT LEFT", 8},
		{"1 , ( ) IF", 10},
		{"1 - + * & =", 7},
		{"- ( ) 1", 10},
	} {
		seen, whole := 0, 0
		grown(strings.Fields(c.pieces), c.most, func(s string, begun bool) {
			seen++
			a := same(t, s)
			if a.e == api.OK {
				whole++
				checkWhole(t, s, a.tree)
			}
			// What begins as a formula is refused, if at all, at its end.
			if a.e != api.OK && begun != (a.at == len(s)) {
				t.Errorf("Formula of %q: %v", s, a)
			}
		})
		if seen < 1000 || whole < 10 {
			t.Errorf("%s: only %d seen, %d whole", c.pieces, seen, whole)
		}
	}
}

// checkWhole holds P8.5 and P8.6 of a formula.
func checkWhole(t *testing.T, s string, tree api.Exp) {
	t.Helper()
	if !Well(tree) {
		t.Errorf("what Formula gives of %q is not well made: %s", s, shape(tree))
	}
	if x, at, e := Formula("(" + s + ")"); e != api.OK || at != 0 || !Same(x, tree) || !alike(x, tree) {
		t.Errorf("Formula of %q in brackets: %s, %d, %d", s, shape(x), at, e)
	}
}

// P8.2: each function, and what is none.
func TestKnown(t *testing.T) {
	all := 0
	for bounds, names := range functions {
		for _, name := range strings.Fields(names) {
			all++
			if least, most, ok := Known(name); least != bounds[0] || most != bounds[1] || !ok {
				t.Errorf("Known of %s: %d, %d, %t", name, least, most, ok)
			}
			for _, s := range []string{strings.ToLower(name), name + " ", " " + name, name + "X", name[1:], name[:len(name)-1], "$" + name, name + "(", name + "\x00", name + name} {
				if least, most, ok := Known(s); least != 0 || most != 0 || ok {
					t.Errorf("Known of %q: %d, %d, %t", s, least, most, ok)
				}
			}
		}
	}
	if all != 20 {
		t.Errorf("%d functions", all)
	}
	for _, s := range []string{"", " ", "A1", "TRUE", "FALSE", "PRODUCT", "POWER", "SUMIF", "RIGHT", "MID", "INT", "CEILING", "XOR", "COUNTA", "ISERR", "IFNA", "VLOOKUP", "MATCH", "-", "+", "&", "="} {
		if least, most, ok := Known(s); least != 0 || most != 0 || ok {
			t.Errorf("Known of %q: %d, %d, %t", s, least, most, ok)
		}
	}
}

// P8.2, P8.3: each function with all numbers of arguments: too few are refused at the closing bracket, too many at the , ahead of the first one too many.
func TestArguments(t *testing.T) {
	for bounds, names := range functions {
		for _, name := range strings.Fields(names) {
			for _, argument := range []string{"1", "A1", "A1:B2", "-1", "(1+2)*3", "SUM(1,2,3)", "TRUE"} {
				for n := range 24 {
					list := strings.TrimSuffix(strings.Repeat(argument+",", n), ",")
					s := name + "(" + list + ")"
					want := answer{}
					switch {
					case n < bounds[0]:
						want = refused(len(s)-1, api.ErrForm)
					case n > bounds[1]:
						want = refused(len(name)+(len(argument)+1)*bounds[1], api.ErrForm)
					}
					a := same(t, s)
					if a.at != want.at || a.e != want.e || a.e == api.OK && len(a.tree.L) != n {
						t.Errorf("Formula of %q: %v", s, a)
					}
					same(t, name+"("+list+",")
					same(t, name+"("+list)
				}
			}
		}
	}
}

// P8.3: a table of what lies in one another, each 40 and 41 deep, alone and by turns.
func TestDeepByHand(t *testing.T) {
	for _, c := range []struct {
		open, close string
		deep        int
	}{
		{"(", ")", 1}, {"-", "", 1}, {"SUM(", ")", 1}, {"-(", ")", 2}, {"-SUM(", ")", 2}, {"SUM((", "))", 2}, {"1+(", ")", 1}, {"1-(2*", ")", 1}, {"--", "", 2}, {"SUM(1,", ")", 1}, {"IF(", ",2)", 1}, {"-(-", ")", 3}, {"SUM(-(", "))", 3}, {"- ( ", " )", 2}, {"1-", "", 0}, {"-1*", "", 0}, {"(1)+", "", 0}, {"SUM(A1:B2)*", "", 0},
	} {
		for _, n := range []int{0, 1, 2, 12, 13, 14, 19, 20, 21, 39, 40, 41, 42} {
			for _, inside := range []string{"1", "A1", "TRUE", `"a"`, "#NUM!", "1+2", "SUM", "SUM(", "SUM(1)", "(", "(1)", "-", "-1", "--1", "(-1)", "-(1)", "A1:B2", "SUM(A1:B2)", ")", "FOO", "", "*", ",", ":", "1 2", "?"} {
				same(t, strings.Repeat(c.open, n)+inside)
				same(t, strings.Repeat(c.open, n)+inside+strings.Repeat(c.close, n))
			}
		}
		if c.deep == 0 {
			continue
		}
		n := 40 / c.deep
		within := strings.Repeat(c.open, n) + strings.Repeat("-", 40%c.deep)
		if a := got(Formula(within + "1" + strings.Repeat(c.close, n))); a.e != api.OK || a.at != 0 {
			t.Errorf("%s, 40 deep: %v", c.open, a)
		}
		if a := got(Formula(within + "-1" + strings.Repeat(c.close, n))); !a.is(refused(len(within)+1, api.ErrLong)) {
			t.Errorf("%s, 41 deep: %v", c.open, a)
		}
		if a := got(Formula(within + "(1)" + strings.Repeat(c.close, n))); !a.is(refused(len(within)+1, api.ErrLong)) {
			t.Errorf("%s, 41 deep: %v", c.open, a)
		}
		if a := got(Formula(within + "ABS(1)" + strings.Repeat(c.close, n))); !a.is(refused(len(within)+4, api.ErrLong)) {
			t.Errorf("%s, 41 deep: %v", c.open, a)
		}
	}
}

// P8.3: which of two errors is told: the one whose token comes first; and at one token that it can't be there at all.
func TestFirstError(t *testing.T) {
	deep := strings.Repeat("(", 41)
	for s, want := range map[string]answer{
		deep + "1":                              refused(41, api.ErrLong),
		deep + " 1":                             refused(42, api.ErrLong),
		deep + "1 2":                            refused(41, api.ErrLong),
		deep + "A1001":                          refused(41, api.ErrForm),
		deep + ")":                              refused(41, api.ErrForm),
		deep:                                    refused(41, api.ErrForm),
		deep + "+":                              refused(41, api.ErrForm),
		deep + "SUM":                            refused(41, api.ErrLong),
		deep + "(":                              refused(41, api.ErrLong),
		deep + "-":                              refused(41, api.ErrLong),
		deep + "((((":                           refused(41, api.ErrLong),
		deep[1:]:                                refused(40, api.ErrForm),
		deep[1:] + ")":                          refused(40, api.ErrForm),
		deep[1:] + "SUM":                        refused(43, api.ErrForm),
		deep[1:] + "SUM 1":                      refused(44, api.ErrForm),
		deep[1:] + "SUM(1":                      refused(44, api.ErrLong),
		"1 2" + deep + "1":                      refused(2, api.ErrForm),
		")" + deep + "1":                        refused(0, api.ErrForm),
		"FOO" + deep + "1":                      refused(0, api.ErrForm),
		deep + "1?":                             refused(42, api.ErrForm),
		deep + `1"`:                             refused(42, api.ErrForm),
		deep + "1 99999999999999999999":         refused(43, api.ErrLong),
		strings.Repeat("-", 41) + "1":           refused(41, api.ErrLong),
		strings.Repeat("-", 42) + "1":           refused(41, api.ErrLong),
		strings.Repeat("-", 41) + "*":           refused(41, api.ErrForm),
		strings.Repeat("SUM(", 41) + "A1:":      refused(164, api.ErrLong),
		strings.Repeat("SUM(", 41) + ":":        refused(164, api.ErrForm),
		strings.Repeat("NOT(", 40) + "1,(1)":    refused(161, api.ErrForm),
		strings.Repeat("SUM(", 40) + "1,(1)":    refused(163, api.ErrLong),
		strings.Repeat("SUM(", 40) + "A1:(1)":   refused(163, api.ErrForm),
		strings.Repeat("ROUND(", 40) + "1)+(1)": refused(241, api.ErrForm),
	} {
		if a := same(t, s); !a.is(want) {
			t.Errorf("Formula of %q: %v, not %v", s, a, want)
		}
	}
}

// P8.3: brackets that are closed, and operands that are over, are not counted any more.
func TestNotDeep(t *testing.T) {
	forty := strings.Repeat("(", 40) + "1" + strings.Repeat(")", 40)
	minus := strings.Repeat("-", 40) + "1"
	for _, s := range []string{forty, forty + "+" + forty, forty + "*(1)", minus + "-" + minus, minus + "*-1", minus + "+(1)", "SUM(" + forty[1:len(forty)-1] + "," + forty[1:len(forty)-1] + ")"} {
		if a := same(t, s); a.e != api.OK {
			t.Errorf("Formula of %q: %v", s, a)
		}
	}
}

// P8.3: 300 bytes, and more; what lex refuses is refused as it says.
func TestLong(t *testing.T) {
	for _, n := range []int{299, 300, 301, 302, 1000, 1 << 16} {
		for _, s := range []string{"1" + strings.Repeat(" ", n-1), strings.Repeat(" ", n-1) + "1", `"` + strings.Repeat("a", n-2) + `"`, strings.Repeat("1+", n/2)[:n-1] + "1", strings.Repeat("(", n), strings.Repeat("A", n), strings.Repeat("?", n)} {
			a := same(t, s)
			if len(s) > 300 && !a.is(refused(0, api.ErrLong)) {
				t.Errorf("Formula of %d bytes: %v", n, a)
			}
		}
	}
	if a := got(Formula(strings.Repeat("1+", 149) + "11")); a.e != api.OK || Deep(a.tree) != 150 {
		t.Errorf("Formula of 300 bytes: %v", a)
	}
	for _, s := range []string{"?", "1+?", `"`, `1)"`, ")(?", "1 2 #", "1." /* a dot alone */, strings.Repeat("9", 41), "99999999999999999999", strings.Repeat("(", 41) + "1+#N", "\x00", "é"} {
		_, at, e := lex.Words(s)
		if a := got(Formula(s)); e == api.OK || !a.is(refused(at, e)) {
			t.Errorf("Formula of %q: %v, not %d, %d", s, a, at, e)
		}
	}
}

// P8.1, P8.5, P8.6, P8.7: formulas that are made by chance, whose trees are known; and the same with a token less, more or other.
func TestMade(t *testing.T) {
	m := maker{rand.New(rand.NewSource(8))}
	whole := 0
	for range 4000 {
		s, want := m.formula(1 + m.Intn(4))
		a := same(t, s)
		if len(s) > 298 || a.e == api.ErrLong {
			continue
		}
		whole++
		if a.e != api.OK || !alike(a.tree, want) {
			t.Fatalf("Formula of %q: %v, not %s", s, a, shape(want))
		}
		if asked("("+s+")").e == api.OK {
			checkWhole(t, s, a.tree)
		}
		m.checkBlanks(t, s)
		for range 3 {
			other := m.spoilt(s)
			same(t, other)
			m.checkBlanks(t, other)
		}
	}
	if whole < 3000 {
		t.Errorf("only %d whole formulas", whole)
	}
}

// maker makes formulas by chance, from a beginning that is always the same.
type maker struct{ *rand.Rand }

// of is one of these words.
func (m maker) of(words string) string {
	list := strings.Fields(words)
	return list[m.Intn(len(list))]
}

// formula is a formula of at most so many trees in one another, and its tree: brackets stand wherever they are needed, and often where they are not.
func (m maker) formula(deep int) (string, api.Exp) {
	s, e := "", api.Exp{}
	kind := m.Intn(6)
	if deep == 1 {
		kind = 0
	}
	switch kind {
	case 0:
		s = m.of(`0 1 2.5 "" "a" "(1" #REF! #DIV/0! TRUE FALSE A1 $B$2 AZ1000 $A9`)
		tokens, _, _ := lex.Words(s)
		e = cut(tokens[:1])
	case 1:
		inner, part := m.formula(deep - 1)
		if part.K == api.XBin {
			inner = "(" + inner + ")"
		}
		s, e = "-"+inner, api.Exp{K: api.XNeg, L: []api.Exp{part}}
	case 2, 3, 4:
		left, l := m.formula(deep - 1)
		right, r := m.formula(deep - 1)
		sign := m.of(strings.Join(tightness, " "))
		if l.K == api.XBin && (binding(l.S) < binding(sign) || m.Intn(3) == 0) {
			left = "(" + left + ")"
		}
		if r.K == api.XBin && (binding(r.S) <= binding(sign) || m.Intn(3) == 0) {
			right = "(" + right + ")"
		}
		s, e = left+" "+sign+right, api.Exp{K: api.XBin, S: sign, L: []api.Exp{l, r}}
	default:
		s, e = m.call(deep)
	}
	if m.Intn(8) == 0 {
		s = "(" + s + ")"
	}
	return s, e
}

// call is a call, and its tree.
func (m maker) call(deep int) (string, api.Exp) {
	all := [][2]int{{1, 20}, {2, 3}, {2, 2}, {1, 2}, {1, 1}}
	bounds := all[m.Intn(len(all))]
	e := api.Exp{K: api.XCall, S: m.of(functions[bounds])}
	var list []string
	for range bounds[0] + m.Intn(min(3, bounds[1])-bounds[0]+1) {
		s, part := m.formula(deep - 1)
		if m.Intn(3) == 0 {
			a, b := m.of("A1 $B2 C$3 $AZ$1000"), m.of("A1 $B2 C$3 $AZ$1000")
			s, part = a+":"+b, api.Exp{K: api.XRange, R: referred(a), R2: referred(b)}
		}
		list, e.L = append(list, s), append(e.L, part)
	}
	return e.S + "(" + strings.Join(list, ",") + ")", e
}

// binding is which row of tightness has the sign.
func binding(sign string) int {
	return slices.IndexFunc(tightness, func(signs string) bool { return slices.Contains(strings.Fields(signs), sign) })
}

// spoilt is a formula with one token less, more or other.
func (m maker) spoilt(s string) string {
	tokens, _, _ := lex.Words(s)
	i := m.Intn(len(tokens))
	from, to := tokens[i].At, tokens[min(i+m.Intn(2), len(tokens)-1)].At
	return s[:from] + " " + m.of(`1 "a" A1 FOO SUM IF ( ) , : - + = SUM(1) A1:B2 -1 ?`) + " " + s[to:]
}

// checkBlanks holds P8.7 of a formula, or of what is none: with other blanks between, the same comes, at the places where the tokens are then.
func (m maker) checkBlanks(t *testing.T, s string) {
	t.Helper()
	tokens, _, e := lex.Words(s)
	if e != api.OK {
		return
	}
	spaced := ""
	places := map[int]int{}
	for i, token := range tokens {
		spaced += strings.Repeat(" ", m.Intn(3))
		places[token.At] = len(spaced)
		if i+1 < len(tokens) {
			spaced += strings.TrimRight(s[token.At:tokens[i+1].At], " ") + " "
		}
	}
	if len(spaced) > 300 {
		return
	}
	a, b := got(Formula(s)), got(Formula(spaced))
	if a.e != api.OK {
		a.at = places[a.at]
	}
	if !a.is(b) {
		t.Errorf("%q comes to %v, but %q to %v", s, a, spaced, b)
	}
}

// The document's rule of memory: an answer's lists are its own.
func TestMemory(t *testing.T) {
	s := "IF(-A1,SUM(A1:B2,3)+4,ROUND(1,2))"
	first, _, _ := Formula(s)
	want := shape(first)
	second, _, _ := Formula(s)
	spoil(second)
	if shape(first) != want {
		t.Errorf("one answer is changed with another: %s", shape(first))
	}
	if third, _, _ := Formula(s); shape(third) != want {
		t.Errorf("an answer is changed with one ahead of it: %s", shape(third))
	}
	var lists [][]api.Exp
	var collect func(e api.Exp)
	collect = func(e api.Exp) {
		if cap(e.L) > 0 {
			lists = append(lists, e.L[:cap(e.L)])
		}
		for _, part := range e.L {
			collect(part)
		}
	}
	collect(first)
	for i, a := range lists {
		for j, b := range lists {
			for k := range a {
				for l := range b {
					if i != j && &a[k] == &b[l] {
						t.Errorf("lists %d and %d share", i, j)
					}
				}
			}
		}
	}
}

// spoil overwrites all lists of a tree, spare room too.
func spoil(e api.Exp) {
	for _, part := range e.L {
		spoil(part)
	}
	list := e.L[:cap(e.L)]
	for i := range list {
		list[i] = api.Exp{K: 77, S: "spoilt"}
	}
}
