package print

import (
	"fmt"
	"math/big"
	"slices"
	"strings"
	"testing"

	"cadastre/api"
	"cadastre/lex"
	"cadastre/parse"
)

// What the chapter's words come to, reckoned apart from the package. A formula's one form is what is left of its words when all brackets are taken away without which it is still read as the same tree. Of trees that are too deep or too long to be read, it is asked of small formulas where brackets are needed.

// answer is what Tidy answers, or, at the place 0, Formula.
type answer struct {
	s  string
	at int
	e  api.Errno
}

func tidied(s string, at int, e api.Errno) answer { return answer{s, at, e} }

func written(s string, e api.Errno) answer { return answer{s, 0, e} }

func refused(at int, e api.Errno) answer { return answer{"", at, e} }

func (a answer) String() string { return fmt.Sprintf("%.120q, %d, %d", a.s, a.at, int(a.e)) }

// functions are the names of those that are known, by how many arguments they have.
var functions = map[[2]int]string{
	{1, 20}: "SUM COUNT MIN MAX AVERAGE AND OR CONCAT",
	{2, 3}:  "IF INDEX",
	{2, 2}:  "ROUND MOD IFERROR",
	{1, 2}:  "LEFT",
	{1, 1}:  "NOT ABS FLOOR SQRT LEN ISERROR",
}

// tightness has the signs of two sides, the loosest first.
var tightness = []string{"= <> < <= > >=", "&", "+ -", "* /"}

// signs are all of them.
var signs = strings.Fields(strings.Join(tightness, " "))

// errorNames are the names of the errors 1 to 5.
var errorNames = strings.Fields("#REF! #VALUE! #DIV/0! #NUM! #CYCLE!")

// numberText is a number's text, reckoned as a fraction.
func numberText(n int64) string {
	s := big.NewRat(n, 10000).FloatString(4)
	return strings.TrimSuffix(strings.TrimRight(s, "0"), ".")
}

// quoted is a text between quotes.
func quoted(s string) string { return `"` + strings.Join(strings.Split(s, `"`), `""`) + `"` }

// refText is a reference as a word, wherever it is.
func refText(r api.Ref) string {
	dollar := map[bool]string{true: "$"}
	name := string(rune('A' + (r.Col+25)%26))
	if r.Col > 26 {
		name = string(rune('A'+(r.Col-27)/26)) + name
	}
	return fmt.Sprintf("%s%s%s%d", dollar[r.AbsCol], name, dollar[r.AbsRow], r.Row)
}

// plain is the text of a tree without parts.
func plain(e api.Exp) string {
	switch e.K {
	case api.XNum:
		return numberText(e.N)
	case api.XText:
		return quoted(e.S)
	case api.XBool:
		return []string{"FALSE", "TRUE"}[e.N]
	case api.XErr:
		return errorNames[e.E-1]
	case api.XRef:
		return refText(e.R)
	}
	return refText(e.R) + ":" + refText(e.R2)
}

// bracketed is the text of a well made tree, with brackets about each part that may have some.
func bracketed(e api.Exp) string {
	var parts []string
	for _, part := range e.L {
		s := bracketed(part)
		if e.K != api.XCall || part.K != api.XRange {
			s = "(" + s + ")"
		}
		parts = append(parts, s)
	}
	switch e.K {
	case api.XNeg:
		return "-" + parts[0]
	case api.XBin:
		return parts[0] + e.S + parts[1]
	case api.XCall:
		return e.S + "(" + strings.Join(parts, ",") + ")"
	}
	return plain(e)
}

// spelt is a formula's words, one behind the other.
func spelt(tokens []api.Token) string {
	s := ""
	for _, token := range tokens {
		switch token.K {
		case api.TokNum:
			s += numberText(token.N)
		case api.TokText:
			s += quoted(token.S)
		case api.TokErr:
			s += errorNames[token.E-1]
		default:
			s += token.S
		}
	}
	return s
}

// pair is where the first ( from some word on stands that is no call's, and its ); false, if there is none.
func pair(tokens []api.Token, from int) (int, int, bool) {
	for i := from; i < len(tokens); i++ {
		if !isSign(tokens[i], "(") || i > 0 && tokens[i-1].K == api.TokWord {
			continue
		}
		open := 0
		for j := i; ; j++ {
			if isSign(tokens[j], "(") {
				open++
			}
			if isSign(tokens[j], ")") {
				open--
			}
			if open == 0 {
				return i, j, true
			}
		}
	}
	return 0, 0, false
}

func isSign(token api.Token, sign string) bool { return token.K == api.TokSign && token.S == sign }

// bare is a formula without the brackets that it does not need to be read as that tree.
func bare(tokens []api.Token, tree api.Exp) string {
	for from := 0; ; {
		i, j, ok := pair(tokens, from)
		if !ok {
			return spelt(tokens)
		}
		less := slices.Concat(tokens[:i], tokens[i+1:j], tokens[j+1:])
		if x, _, e := parse.Formula(spelt(less)); e == api.OK && parse.Same(x, tree) {
			tokens, from = less, i
		} else {
			from = i + 1
		}
	}
}

// asked is what Tidy should answer.
func asked(s string) answer {
	tree, at, e := parse.Formula(s)
	if e != api.OK {
		return refused(at, e)
	}
	tokens, _, _ := lex.Words(s)
	return answer{s: bare(tokens, tree)}
}

// known is where brackets are needed, as far as it was asked.
var known = map[[2]string]bool{}

// needs tells whether a formula of that sign (of two sides, or - ahead, as neg) needs brackets where the X is in a small formula.
func needs(outer string, inner api.Exp) bool {
	sign := ""
	switch inner.K {
	case api.XBin:
		sign = "1" + inner.S + "2"
	case api.XNeg:
		sign = "-3"
	default:
		return false
	}
	key := [2]string{outer, sign}
	if _, ok := known[key]; !ok {
		with, _, e1 := parse.Formula(strings.Replace(outer, "X", "("+sign+")", 1))
		without, _, e2 := parse.Formula(strings.Replace(outer, "X", sign, 1))
		if e1 != api.OK {
			panic(outer + " and " + sign)
		}
		known[key] = e2 != api.OK || !parse.Same(with, without)
	}
	return known[key]
}

// text is what Formula should write of a well made tree.
func text(e api.Exp) string {
	var parts []string
	for _, part := range e.L {
		parts = append(parts, text(part))
	}
	about := func(i int, outer string) string {
		if needs(outer, e.L[i]) {
			return "(" + parts[i] + ")"
		}
		return parts[i]
	}
	switch e.K {
	case api.XNeg:
		return "-" + about(0, "-X")
	case api.XBin:
		return about(0, "X"+e.S+"4") + e.S + about(1, "4"+e.S+"X")
	case api.XCall:
		return e.S + "(" + strings.Join(parts, ",") + ")"
	}
	return plain(e)
}

// askedOf is what Formula should answer.
func askedOf(e api.Exp) answer {
	if !parse.Well(e) {
		return refused(0, api.ErrArg)
	}
	return answer{s: text(e)}
}

// same holds what Tidy answers of s against what it should.
func same(t *testing.T, s string) answer {
	t.Helper()
	a, want := tidied(Tidy(s)), asked(s)
	if a != want {
		t.Errorf("Tidy of %d bytes, %.120q: %v, not %v", len(s), s, a, want)
	}
	return a
}

// sameOf holds what Formula answers of a tree against what it should, both ways of reckoning it, and P9.3.
func sameOf(t *testing.T, e api.Exp) answer {
	t.Helper()
	a, want := written(Formula(e)), askedOf(e)
	if a != want {
		t.Errorf("Formula: %v, not %v", a, want)
	}
	if a.e != api.OK {
		return a
	}
	if s := bracketed(e); len(s) <= api.MaxText && parse.Deep(e) <= api.MaxDeep/2 {
		if tidy := asked(s); tidy != a {
			t.Errorf("Formula: %v, not what is left of %s: %v", a, s, tidy)
		}
	}
	if len(a.s) <= api.MaxText && parse.Deep(e) <= api.MaxDeep {
		if x, at, err := parse.Formula(a.s); err != api.OK || at != 0 || !parse.Same(x, e) {
			t.Errorf("what Formula writes, %v, is read as another tree: %d, %d", a, at, err)
		}
	}
	return a
}
