package print

import (
	"fmt"
	"math/rand"
	"strings"
	"testing"

	"cadastre/api"
	"cadastre/lex"
	"cadastre/parse"
)

// P9.2: by hand, the chapter's example among them.
func TestTidyByHand(t *testing.T) {
	for s, want := range map[string]string{
		"(A1+(2*3))- (4-5)": "A1+2*3-(4-5)",
		"1":                 "1", " 1 ": "1", "(1)": "1", "((((1))))": "1", "1.50": "1.5", "1.0": "1", "0.0": "0", "007": "7", "000": "0", "00.10": "0.1", "1.23456": "1.2346", "0.00005": "0.0001", "0.00004": "0", "9.99999": "10",
		`"a""b"`: `"a""b"`, ` "" `: `""`, `("""")`: `""""`, `" a "`: `" a "`, "( #DIV/0! )": "#DIV/0!", "(TRUE)": "TRUE", "(FALSE)": "FALSE", "($A$1)": "$A$1", "( A$1 )": "A$1",
		"(1+2)*3": "(1+2)*3", "((1+2))*3": "(1+2)*3", "(1*2)+3": "1*2+3", "1*(2+3)": "1*(2+3)", "1+(2*3)": "1+2*3", "1+(2+3)": "1+(2+3)", "(1+2)+3": "1+2+3", "1*(2/3)": "1*(2/3)", "1-(2-3)-4": "1-(2-3)-4", "((1-2)-3)": "1-2-3", "(1&2)&3": "1&2&3", "1&(2&3)": "1&(2&3)", "(1<2)=(3<4)": "1<2=(3<4)", "1=(2=3)": "1=(2=3)", "(A1&B1)+1": "(A1&B1)+1", "A1&(B1+1)": "A1&B1+1", "(1=2)&3": "(1=2)&3",
		"-(1+2)": "-(1+2)", "-(1)": "-1", "-(-(3))": "--3", "- - 3": "--3", "(-1)*2": "-1*2", "-(1*2)": "-(1*2)", "1-(-2)": "1--2", "1*(-2)": "1*-2", "(-1)-2": "-1-2", "-((1))": "-1", "-(A1)": "-A1", "-(SUM(1))": "-SUM(1)", "-(-(1+2))": "--(1+2)",
		"SUM( A1:$B$2 , (3) )": "SUM(A1:$B$2,3)", "SUM(B2:A1)": "SUM(B2:A1)", "SUM ( ( 1 + 2 ) , ( A1 ) )": "SUM(1+2,A1)", "IF(TRUE,#REF!,1/(2*3))": "IF(TRUE,#REF!,1/(2*3))", "IF((1=2),(IF((1),2)),(3))": "IF(1=2,IF(1,2),3)", "(SUM(1))+(SUM(2))": "SUM(1)+SUM(2)",
	} {
		if a := same(t, s); a != (answer{s: want}) {
			t.Errorf("Tidy of %q: %v, not %q", s, a, want)
		}
	}
}

// P9.2: formulas that lex or parse refuses, with the place and the error.
func TestTidyRefused(t *testing.T) {
	for s, want := range map[string]answer{
		"": refused(0, api.ErrForm), " ": refused(1, api.ErrForm), "1+": refused(2, api.ErrForm), "1 2": refused(2, api.ErrForm), "(1": refused(2, api.ErrForm), "1)": refused(1, api.ErrForm), "+1": refused(0, api.ErrForm), "()": refused(1, api.ErrForm), "1++2": refused(2, api.ErrForm),
		"FOO": refused(0, api.ErrForm), "a1": refused(0, api.ErrForm), "A1001": refused(0, api.ErrForm), "A1:B2": refused(2, api.ErrForm), "(A1:B2)": refused(3, api.ErrForm), "SUM(-A1:B2)": refused(7, api.ErrForm), "SUM()": refused(4, api.ErrForm), "IF(1)": refused(4, api.ErrForm), "NOT(1,2)": refused(5, api.ErrForm),
		"1?": refused(1, api.ErrForm), `1+"a`: refused(2, api.ErrForm), "1+#N": refused(2, api.ErrForm), strings.Repeat("9", 41): refused(0, api.ErrForm), "1+99999999999999999999": refused(2, api.ErrLong),
		strings.Repeat("(", 41) + "1" + strings.Repeat(")", 41): refused(41, api.ErrLong), strings.Repeat("-", 41) + "1": refused(41, api.ErrLong), strings.Repeat("(", 41): refused(41, api.ErrForm), strings.Repeat(" ", 300) + "1": refused(0, api.ErrLong), strings.Repeat("1+", 150) + "1": refused(0, api.ErrLong),
	} {
		if a := same(t, s); a != want {
			t.Errorf("Tidy of %q: %v, not %v", s, a, want)
		}
	}
}

// checkTidy holds P9.4 of a formula: what is tidied twice, and how long it is; and what brackets and blanks make of it.
func checkTidy(t *testing.T, s string) {
	t.Helper()
	a := same(t, s)
	if a.e != api.OK {
		return
	}
	if again := tidied(Tidy(a.s)); again != a {
		t.Errorf("Tidy of %q: %v, and of that %v", s, a, again)
	}
	if len(a.s) > len(s) {
		t.Errorf("Tidy of %q is longer: %v", s, a)
	}
	for _, other := range []string{"(" + s + ")", " " + s, s + " ", "( " + s + " )"} {
		if b := tidied(Tidy(other)); b != a && b.e != api.ErrLong {
			t.Errorf("Tidy of %q: %v, and of %q: %v", s, a, other, b)
		}
	}
}

// P9.2, P9.4: brackets about each part that can have some, one pair or two, or none, of all rows of three signs.
func TestBrackets(t *testing.T) {
	forms := []string{"1%s2%s3%s4", "(1%s2)%s3%s4", "1%s(2%s3)%s4", "1%s2%s(3%s4)", "(1%s2)%s(3%s4)", "(1%s2%s3)%s4", "1%s(2%s3%s4)", "((1%s2)%s3)%s4", "(1%s(2%s3))%s4", "1%s((2%s3)%s4)", "1%s(2%s(3%s4))", "-(1%s2)%s-(3)%s4", "-(1%s-2%s(-3))%s-4", "-(-(1%s2)%s(3%s4))", "((-1)%s((2)%s(3)))%s(-(4))"}
	for _, a := range signs {
		for _, b := range signs {
			for _, c := range signs {
				var texts []answer
				var trees []api.Exp
				for _, form := range forms {
					s := fmt.Sprintf(form, a, b, c)
					checkTidy(t, s)
					tree, _, _ := parse.Formula(s)
					texts, trees = append(texts, tidied(Tidy(s))), append(trees, tree)
				}
				for i := range forms {
					for j := range forms {
						if (texts[i] == texts[j]) != parse.Same(trees[i], trees[j]) {
							t.Errorf("%v and %v", texts[i], texts[j])
						}
					}
				}
			}
		}
	}
}

// P9.4: brackets and signs ahead, up to 40 deep and beyond, and chains of signs that are far deeper as trees.
func TestTidyDeep(t *testing.T) {
	for n := range 45 {
		for _, c := range [][3]string{{"(", "1", ")"}, {"-", "1", ""}, {"SUM(", "A1:B2", ")"}, {"1-(", "1", ")"}, {"(", "1", ")-1"}, {"(", "1", "-2)"}, {"1+(", "1", "*2)"}, {"-(", "1", ")"}, {"-(", "1", "*2)"}, {"SUM((", "1", "))"}, {"((", "1", "))+1"}, {"((", "1", "+1))*2"}, {"1+", "1", ""}, {"1-(2)*", "1", ""}, {"", "1", "=1"}} {
			checkTidy(t, strings.Repeat(c[0], n)+c[1]+strings.Repeat(c[2], n))
		}
	}
	for _, s := range []string{strings.Repeat("1+", 149) + "1", strings.Repeat("1+", 149) + "11", strings.Repeat("A1*(1+2)-", 33) + "1", strings.Repeat(" ", 299) + "1", `"` + strings.Repeat(`"`, 298) + `"`, "(" + strings.Repeat("1&", 148) + "1)"} {
		checkTidy(t, s)
		if a := tidied(Tidy(s)); a.e != api.OK {
			t.Errorf("Tidy of %q: %v", s, a)
		}
	}
}

// P9.2, P9.4: formulas made by chance, with brackets and blanks more than they need; of one tree, and of two; and what is none.
func TestMadeFormulas(t *testing.T) {
	m := maker{rand.New(rand.NewSource(10))}
	last, lastTree := "", api.Exp{}
	whole := 0
	for range 6000 {
		tree := m.tree(1 + m.Intn(4))
		s, other := m.loose(tree), m.loose(tree)
		checkTidy(t, s)
		a, b := tidied(Tidy(s)), tidied(Tidy(other))
		if a.e != api.OK || b.e != api.OK {
			continue
		}
		whole++
		if a != b || a != written(Formula(tree)) {
			t.Errorf("Tidy of %q: %v, and of %q: %v", s, a, other, b)
		}
		if (a.s == last) != parse.Same(tree, lastTree) {
			t.Errorf("%q and %q", a.s, last)
		}
		last, lastTree = a.s, tree
		checkTidy(t, m.spoilt(s))
	}
	if whole < 4000 {
		t.Errorf("only %d whole formulas", whole)
	}
}

// maker makes trees and formulas by chance, from a beginning that is always the same.
type maker struct{ *rand.Rand }

// of is one of these words.
func (m maker) of(words string) string {
	list := strings.Fields(words)
	return list[m.Intn(len(list))]
}

// leaf is a well made tree without parts.
func (m maker) leaf() api.Exp {
	switch m.Intn(5) {
	case 0:
		return aNum([]int64{0, 10000, 15000, 1, m.Int63n(1000000), m.Int63()}[m.Intn(6)])
	case 1:
		return aText([]string{"", "a", `"`, "(1", ",", `x"")`}[m.Intn(6)])
	case 2:
		return aBool(int64(m.Intn(2)))
	case 3:
		return anError(1 + m.Intn(5))
	}
	return aRef(m.ref())
}

// ref is a reference.
func (m maker) ref() api.Ref {
	return api.Ref{Row: 1 + m.Intn(api.MaxRows), Col: 1 + m.Intn(api.MaxCols), AbsRow: m.Intn(2) == 0, AbsCol: m.Intn(2) == 0}
}

// tree is a well made tree of at most so many in one another.
func (m maker) tree(deep int) api.Exp {
	kind := m.Intn(6)
	if deep == 1 {
		kind = 0
	}
	switch kind {
	case 0:
		return m.leaf()
	case 1:
		return aNeg(m.tree(deep - 1))
	case 2, 3, 4:
		return aBin(signs[m.Intn(len(signs))], m.tree(deep-1), m.tree(deep-1))
	}
	bounds := [][2]int{{1, 20}, {2, 3}, {2, 2}, {1, 2}, {1, 1}}[m.Intn(5)]
	e := aCall(m.of(functions[bounds]))
	for range bounds[0] + m.Intn(min(4, bounds[1])-bounds[0]+1) {
		part := m.tree(deep - 1)
		if m.Intn(3) == 0 {
			part = aRange(m.ref(), m.ref())
		}
		e.L = append(e.L, part)
	}
	return e
}

// spoiltTree is a tree of which one part, or one field, is another one, mostly such as can't be.
func (m maker) spoiltTree(e api.Exp) api.Exp {
	if len(e.L) > 0 && m.Intn(3) > 0 {
		list := append([]api.Exp{}, e.L...)
		i := m.Intn(len(list))
		list[i] = m.spoiltTree(list[i])
		e.L = list
		return e
	}
	switch m.Intn(6) {
	case 0:
		e.K = m.Intn(11) - 1
	case 1:
		e.N = -1 - e.N
	case 2:
		e.S += m.of("X = + SUM")
	case 3:
		e.E += m.Intn(7)
	case 4:
		e.R.Row += m.Intn(1000)
		e.R.Col--
	default:
		e.L = append(append([]api.Exp{}, e.L...), m.leaf())
	}
	return e
}

// loose is a formula that says a tree, with brackets wherever they are needed, and often where they are not, and with blanks.
func (m maker) loose(e api.Exp) string {
	if e.K == api.XRange {
		return m.spaced(refText(e.R), ":", refText(e.R2))
	}
	var parts []string
	for _, part := range e.L {
		parts = append(parts, m.loose(part))
	}
	about := func(i int, outer string) string {
		if needs(outer, e.L[i]) || m.Intn(4) == 0 {
			return m.spaced("(", parts[i], ")")
		}
		return parts[i]
	}
	s := ""
	switch e.K {
	case api.XNeg:
		s = m.spaced("-", about(0, "-X"))
	case api.XBin:
		s = m.spaced(about(0, "X"+e.S+"4"), e.S, about(1, "4"+e.S+"X"))
	case api.XCall:
		s = m.spaced(e.S, "(")
		for i, part := range parts {
			if i > 0 {
				s = m.spaced(s, ",")
			}
			s = m.spaced(s, part)
		}
		s = m.spaced(s, ")")
	case api.XNum:
		s = strings.Repeat("0", m.Intn(3)) + plain(e)
	default:
		s = plain(e)
	}
	if m.Intn(8) == 0 {
		s = m.spaced("(", s, ")")
	}
	return s
}

// spaced are pieces one behind the other, some with a blank between.
func (m maker) spaced(pieces ...string) string {
	s := ""
	for i, piece := range pieces {
		if i > 0 && m.Intn(6) == 0 {
			s += " "
		}
		s += piece
	}
	return s
}

// spoilt is a formula with one token less, more or other.
func (m maker) spoilt(s string) string {
	tokens, _, _ := lex.Words(s)
	i := m.Intn(len(tokens))
	from, to := tokens[i].At, tokens[min(i+m.Intn(2), len(tokens)-1)].At
	return s[:from] + " " + m.of(`1 "a" A1 FOO SUM IF ( ) , : - + = SUM(1) A1:B2 -1 ?`) + " " + s[to:]
}
