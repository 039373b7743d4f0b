package lex

import (
	"slices"
	"strings"
	"testing"

	"cadastre/api"
)

func aNum(at int, n int64) api.Token     { return api.Token{K: api.TokNum, At: at, N: n} }
func aText(at int, s string) api.Token   { return api.Token{K: api.TokText, At: at, S: s} }
func aWord(at int, s string) api.Token   { return api.Token{K: api.TokWord, At: at, S: s} }
func aSign(at int, s string) api.Token   { return api.Token{K: api.TokSign, At: at, S: s} }
func anError(at int, e int) api.Token    { return api.Token{K: api.TokErr, At: at, E: e} }
func theEnd(at int) api.Token            { return api.Token{K: api.TokEnd, At: at} }
func these(tokens ...api.Token) answer   { return answer{tokens: tokens} }
func refused(at int, e api.Errno) answer { return answer{at: at, e: e} }

// P7.1: by hand, the chapter's example among them.
func TestWordsByHand(t *testing.T) {
	for _, c := range []struct {
		s    string
		want answer
	}{
		{`SUM(A1:$B2)<>"a""b"`, these(aWord(0, "SUM"), aSign(3, "("), aWord(4, "A1"), aSign(6, ":"), aWord(7, "$B2"), aSign(10, ")"), aSign(11, "<>"), aText(13, `a"b`), theEnd(19))},
		{"", these(theEnd(0))}, {" ", these(theEnd(1))}, {"   ", these(theEnd(3))},
		{"A1+1.5", these(aWord(0, "A1"), aSign(2, "+"), aNum(3, 15000), theEnd(6))},
		{" A1 + 1.5 ", these(aWord(1, "A1"), aSign(4, "+"), aNum(6, 15000), theEnd(10))},
		{"IF(A1>=2,TRUE,#N", refused(14, api.ErrForm)},
		{"IF(A1>=2,TRUE,#NUM!)", these(aWord(0, "IF"), aSign(2, "("), aWord(3, "A1"), aSign(5, ">="), aNum(7, 20000), aSign(8, ","), aWord(9, "TRUE"), aSign(13, ","), anError(14, api.ENum), aSign(19, ")"), theEnd(20))},
		{"-1", these(aSign(0, "-"), aNum(1, 10000), theEnd(2))},
		{"=1", these(aSign(0, "="), aNum(1, 10000), theEnd(2))},
		{"1 2", these(aNum(0, 10000), aNum(2, 20000), theEnd(3))},
		{"1 .5", refused(2, api.ErrForm)}, {"1. 5", refused(1, api.ErrForm)},
		{"1A", these(aNum(0, 10000), aWord(1, "A"), theEnd(2))},
		{"1e3", these(aNum(0, 10000), aWord(1, "e3"), theEnd(3))},
		{"0x1F", these(aNum(0, 0), aWord(1, "x1F"), theEnd(4))},
		{"A1.5", refused(2, api.ErrForm)},
		{"A1?", refused(2, api.ErrForm)}, {"A1 ;B1", refused(3, api.ErrForm)}, {"A1%", refused(2, api.ErrForm)}, {"2^3", refused(1, api.ErrForm)}, {"{1}", refused(0, api.ErrForm)}, {"A1'", refused(2, api.ErrForm)}, {"a!b", refused(1, api.ErrForm)},
	} {
		if a := got(Words(c.s)); !a.is(c.want) || !asked(c.s).is(c.want) {
			t.Errorf("Words of %q: %v, not %v", c.s, a, c.want)
		}
	}
}

// P7.1: every short text of bytes that make one kind of token, or several.
func TestShortTexts(t *testing.T) {
	for _, c := range []struct {
		bytes string
		most  int
	}{
		{`"a `, 9}, {`"`, 300}, {"1. ", 8}, {"0.5A", 6}, {"<>=", 8}, {"<>=1 ", 6}, {"A$_1 ", 6}, {"aZ_$9.", 5}, {"#NUM!", 6}, {"-+*/&(),:", 4}, {`1."A#<>-_ `, 4},
	} {
		texts(c.bytes, c.most, func(s string) { same(t, s) })
	}
}

// P7.1: what stands beside what, with blanks between and without.
func TestPieces(t *testing.T) {
	for _, a := range pieces() {
		for _, b := range pieces() {
			for _, c := range pieces() {
				same(t, a+b+c)
				same(t, a+" "+b+" "+c)
			}
		}
	}
}

// P7.1: each byte alone, beside each other one, and at each place of a formula.
func TestBytes(t *testing.T) {
	for b := range 256 {
		one := string([]byte{byte(b)})
		same(t, one)
		for c := range 256 {
			same(t, one+string([]byte{byte(c)}))
		}
		for _, s := range []string{`SUM(A1:$B2) <> "a""b"`, "#DIV/0!-12.50", "x_1 >=#CYCLE!"} {
			for i := range len(s) + 1 {
				same(t, s[:i]+one+s[i:])
				if i < len(s) {
					same(t, s[:i]+one+s[i+1:])
				}
			}
		}
	}
}

// P7.1: of all bytes 32 alone is a blank, and within a text any byte is what it is.
func TestOtherBlanks(t *testing.T) {
	for _, s := range []string{"\t", "\n", "\r", "\v", "\f", "\x00", "\x1f", "\x7f", "\u0085", "\u00a0", "\u2003", "\u3000", "\ufeff", "é", "\xff"} {
		if a := got(Words("A1 " + s + "+1")); !a.is(refused(3, api.ErrForm)) {
			t.Errorf("Words with %q between: %v", s, a)
		}
		if a := got(Words(s)); !a.is(refused(0, api.ErrForm)) {
			t.Errorf("Words of %q: %v", s, a)
		}
		if a := got(Words(`"` + s + `"`)); !a.is(these(aText(0, s), theEnd(len(s)+2))) {
			t.Errorf("Words of %q in quotes: %v", s, a)
		}
	}
}

// P7.1: 300 bytes, and more.
func TestLong(t *testing.T) {
	for _, s := range []string{" ", "A", "-", "1", `"`, "#", "?", "<>", "1.5+", `"a" `, "#REF!", "A1 ", "\xff"} {
		for _, n := range []int{298, 299, 300, 301, 302, 600, 1 << 16} {
			long := strings.Repeat(s, n)[:n]
			same(t, long)
			same(t, (`"` + long)[:n])
			same(t, `"`+long[:n-2]+`"`)
		}
	}
	letters := strings.Repeat("A", 300)
	if a := got(Words(letters)); !a.is(these(aWord(0, letters), theEnd(300))) {
		t.Errorf("a word of 300 bytes: %v", a)
	}
	if a := got(Words(`"` + letters[2:] + `"`)); !a.is(these(aText(0, letters[2:]), theEnd(300))) {
		t.Errorf("a text of 298 bytes: %v", a)
	}
	if tokens, at, e := Words(strings.Repeat("-", 300)); len(tokens) != 301 || at != 0 || e != api.OK {
		t.Errorf("300 signs: %d tokens, %d, %d", len(tokens), at, e)
	}
	// That it is too long goes ahead of all that stands in it.
	for _, s := range []string{letters + "A", letters + " ", letters + "?", "?" + letters, `"` + letters, strings.Repeat(" ", 301), strings.Repeat("9", 301), strings.Repeat("0", 1<<16), "\xff" + letters} {
		if a := got(Words(s)); !a.is(refused(0, api.ErrLong)) {
			t.Errorf("Words of %d bytes, %.20q: %v", len(s), s, a)
		}
	}
	// 300 bytes that can't be are no longer than they may be.
	if a := got(Words(letters[1:] + "?")); !a.is(refused(299, api.ErrForm)) {
		t.Errorf("a fault at the last place: %v", a)
	}
}

// P7.1: digits ahead of a dot and behind it, too many, and numbers too great.
func TestNumbers(t *testing.T) {
	for _, digit := range []string{"0", "1", "4", "5", "9"} {
		for n := 1; n <= 43; n++ {
			long := strings.Repeat(digit, n)
			for _, s := range []string{long, long + ".", "." + long, "0." + long, long + ".5", long + "." + long, long + ".5.", long + "..5", long + ".A", long + ".5.5", long + "A"} {
				same(t, s)
				same(t, "A1+"+s+" ")
			}
		}
	}
	nines, noughts := strings.Repeat("9", 40), strings.Repeat("0", 40)
	for _, c := range []struct {
		s    string
		want answer
	}{
		{"0", these(aNum(0, 0), theEnd(1))}, {"007", these(aNum(0, 70000), theEnd(3))}, {"1.25", these(aNum(0, 12500), theEnd(4))}, {"0.00005", these(aNum(0, 1), theEnd(7))}, {"0.00004", these(aNum(0, 0), theEnd(7))},
		{"922337203685477.5807", these(aNum(0, api.Most), theEnd(20))}, {"922337203685477.58074", these(aNum(0, api.Most), theEnd(21))},
		{"922337203685477.5808", refused(0, api.ErrLong)}, {"922337203685477.58075", refused(0, api.ErrLong)}, {"922337203685478", refused(0, api.ErrLong)}, {"1+922337203685478", refused(2, api.ErrLong)},
		{"1.", refused(1, api.ErrForm)}, {".5", refused(0, api.ErrForm)}, {".", refused(0, api.ErrForm)}, {"1.2.3", refused(3, api.ErrForm)}, {"1..2", refused(1, api.ErrForm)}, {"1.A", refused(1, api.ErrForm)}, {`1."5"`, refused(1, api.ErrForm)}, {"1.-5", refused(1, api.ErrForm)},
		{noughts, these(aNum(0, 0), theEnd(40))}, {noughts + "." + noughts, these(aNum(0, 0), theEnd(81))}, {"0." + nines, these(aNum(0, 10000), theEnd(42))},
		{noughts + "0", refused(0, api.ErrForm)}, {"1." + noughts + "0", refused(0, api.ErrForm)}, {"A1 + " + noughts + "0", refused(5, api.ErrForm)},
		{nines, refused(0, api.ErrLong)}, {nines + "." + nines, refused(0, api.ErrLong)}, {nines + "9", refused(0, api.ErrForm)}, {nines + "." + noughts + "0", refused(0, api.ErrForm)},
		// A dot without a digit behind it comes after a number that can't be itself.
		{nines + ".", refused(0, api.ErrLong)}, {noughts + "0.", refused(0, api.ErrForm)}, {noughts + ".", refused(40, api.ErrForm)},
		// The number that can't be comes ahead of what is behind it, and the other way round.
		{nines + " ?", refused(0, api.ErrLong)}, {"? " + nines, refused(0, api.ErrForm)}, {noughts + "0+" + nines, refused(0, api.ErrForm)}, {nines + "+" + noughts + "0", refused(0, api.ErrLong)},
	} {
		if a := got(Words(c.s)); !a.is(c.want) {
			t.Errorf("Words of %q: %v, not %v", c.s, a, c.want)
		}
	}
}

// P7.1: texts with quotes inside, at both ends, alone, and texts that do not end.
func TestTexts(t *testing.T) {
	for _, c := range []struct {
		s    string
		want answer
	}{
		{`""`, these(aText(0, ""), theEnd(2))}, {`""""`, these(aText(0, `"`), theEnd(4))}, {`""""""`, these(aText(0, `""`), theEnd(6))},
		{`"a"`, these(aText(0, "a"), theEnd(3))}, {`"""a"`, these(aText(0, `"a`), theEnd(5))}, {`"a"""`, these(aText(0, `a"`), theEnd(5))}, {`"""a"""`, these(aText(0, `"a"`), theEnd(7))},
		{`"a""b"`, these(aText(0, `a"b`), theEnd(6))}, {`"a""""b"`, these(aText(0, `a""b`), theEnd(8))}, {`"a" "b"`, these(aText(0, "a"), aText(4, "b"), theEnd(7))}, {`"" ""`, these(aText(0, ""), aText(3, ""), theEnd(5))},
		{`" a  b "`, these(aText(0, " a  b "), theEnd(8))}, {`"1+A1<>#REF!?"`, these(aText(0, "1+A1<>#REF!?"), theEnd(14))}, {"\"a\nb\x00\xff\"", these(aText(0, "a\nb\x00\xff"), theEnd(7))},
		{`"a"b`, these(aText(0, "a"), aWord(3, "b"), theEnd(4))}, {`b"a"1`, these(aWord(0, "b"), aText(1, "a"), aNum(4, 10000), theEnd(5))}, {`"a"&"b"`, these(aText(0, "a"), aSign(3, "&"), aText(4, "b"), theEnd(7))},
		{`"`, refused(0, api.ErrForm)}, {`"""`, refused(0, api.ErrForm)}, {`"""""`, refused(0, api.ErrForm)}, {`"a`, refused(0, api.ErrForm)}, {`"a""`, refused(0, api.ErrForm)}, {`"a""b`, refused(0, api.ErrForm)}, {`"" "`, refused(3, api.ErrForm)},
		{`A1&"a`, refused(3, api.ErrForm)}, {`"a"&"b""`, refused(4, api.ErrForm)}, {`" ?`, refused(0, api.ErrForm)}, {`'a'`, refused(0, api.ErrForm)}, {"`a`", refused(0, api.ErrForm)},
	} {
		if a := got(Words(c.s)); !a.is(c.want) || !asked(c.s).is(c.want) {
			t.Errorf("Words of %q: %v, not %v", c.s, a, c.want)
		}
	}
}

// P7.1: words of small and great letters, $, digits and _, and what none begins with.
func TestWordForms(t *testing.T) {
	all := "ABCDEFGHIJKLMNOPQRSTUVWXYZabcdefghijklmnopqrstuvwxyz$0123456789_"
	for _, s := range []string{"A", "z", "$", "$$", "$1", "$_", "A_", "a1", "sum", "Sum", "TRUE", "false", "A1", "$A$1", "A1$B2", "aZ09_$", "A____", all} {
		if a := got(Words(s)); !a.is(these(aWord(0, s), theEnd(len(s)))) {
			t.Errorf("Words of %q: %v", s, a)
		}
	}
	for s, want := range map[string]answer{
		"_": refused(0, api.ErrForm), "_A": refused(0, api.ErrForm), "1_": refused(1, api.ErrForm), "1_A": refused(1, api.ErrForm), "A _": refused(2, api.ErrForm), "-_1": refused(1, api.ErrForm),
		"9A_": these(aNum(0, 90000), aWord(1, "A_"), theEnd(3)), "1$": these(aNum(0, 10000), aWord(1, "$"), theEnd(2)), "A 1": these(aWord(0, "A"), aNum(2, 10000), theEnd(3)), "A.B": refused(1, api.ErrForm), "Aé": refused(1, api.ErrForm), "éA": refused(0, api.ErrForm),
		"A@B": refused(1, api.ErrForm), "A[1]": refused(1, api.ErrForm), "A`": refused(1, api.ErrForm), "A{": refused(1, api.ErrForm), "A#": refused(1, api.ErrForm),
	} {
		if a := got(Words(s)); !a.is(want) {
			t.Errorf("Words of %q: %v, not %v", s, a, want)
		}
	}
}

// P7.1: each of the errors, beginnings of one, one with another byte, one with more behind it.
func TestErrorNames(t *testing.T) {
	for e, name := range []string{"", "#REF!", "#VALUE!", "#DIV/0!", "#NUM!", "#CYCLE!"} {
		if name == "" {
			continue
		}
		n := len(name)
		if a := got(Words(name)); !a.is(these(anError(0, e), theEnd(n))) {
			t.Errorf("Words of %q: %v", name, a)
		}
		if a := got(Words(name + name)); !a.is(these(anError(0, e), anError(n, e), theEnd(2*n))) {
			t.Errorf("Words of %q twice: %v", name, a)
		}
		if a := got(Words("1" + name + "x9")); !a.is(these(aNum(0, 10000), anError(1, e), aWord(n+1, "x9"), theEnd(n+3))) {
			t.Errorf("Words of %q with more behind it: %v", name, a)
		}
		if a := got(Words("A1-" + name + "!")); !a.is(refused(3+n, api.ErrForm)) {
			t.Errorf("Words of %q with ! behind it: %v", name, a)
		}
		for i := 1; i < n; i++ {
			for _, s := range []string{name[:i], name[:i] + " " + name[i:], name[:i] + "x", name[:i] + name[i+1:], name[:i] + "_" + name[i+1:], name[:i] + name} {
				if a := got(Words("A1 " + s)); !a.is(refused(3, api.ErrForm)) {
					t.Errorf("Words of %q: %v", "A1 "+s, a)
				}
			}
		}
	}
	for _, s := range []string{"#", "##", "#N/A", "#NAME?", "#NULL!", "#ref!", "#Ref!", "# REF!", "#REF?", "#DIV/0", "#DIV/1!", "#!", "#1", "##REF!", "#BLANK!"} {
		if a := got(Words(s)); !a.is(refused(0, api.ErrForm)) {
			t.Errorf("Words of %q: %v", s, a)
		}
	}
	if a := got(Words("REF!")); !a.is(refused(3, api.ErrForm)) {
		t.Errorf("an error's name without its sign: %v", a)
	}
}

// P7.1: each sign, and signs without blanks between.
func TestSigns(t *testing.T) {
	all := []string{"<>", "<=", ">=", "<", ">", "=", "+", "-", "*", "/", "&", "(", ")", ",", ":"}
	for _, a := range all {
		if got := got(Words(a)); !got.is(these(aSign(0, a), theEnd(len(a)))) {
			t.Errorf("Words of %q: %v", a, got)
		}
		for _, b := range all {
			same(t, a+b)
			if got := got(Words(a + " " + b)); !got.is(these(aSign(0, a), aSign(len(a)+1, b), theEnd(len(a)+1+len(b)))) {
				t.Errorf("Words of %q, a blank and %q: %v", a, b, got)
			}
			for _, c := range all {
				same(t, a+b+c)
			}
		}
	}
	for s, want := range map[string][]string{
		"=>": {"=", ">"}, "=<": {"=", "<"}, "><": {">", "<"}, "==": {"=", "="}, "<<": {"<", "<"}, ">>": {">", ">"}, "<>=": {"<>", "="}, "<=>": {"<=", ">"}, ">=>": {">=", ">"}, "<<>": {"<", "<>"}, "<<=": {"<", "<="}, "<==": {"<=", "="}, "=<>": {"=", "<>"}, "<>>=": {"<>", ">="}, ">>=<>": {">", ">=", "<>"},
		"< >": {"<", ">"}, "< =": {"<", "="}, "> =": {">", "="}, "--": {"-", "-"}, "/*": {"/", "*"}, "&&": {"&", "&"}, "()": {"(", ")"}, "::,,": {":", ":", ",", ","}, "))((": {")", ")", "(", "("},
	} {
		tokens, _, e := Words(s)
		var signs []string
		for _, token := range tokens {
			if token.K == api.TokSign {
				signs = append(signs, token.S)
			}
		}
		if !slices.Equal(signs, want) || len(tokens) != len(want)+1 || e != api.OK {
			t.Errorf("Words of %q: %q, %d", s, signs, e)
		}
	}
	for _, s := range []string{"!", "%", "'", ".", ";", "?", "@", "[", "\\", "]", "^", "_", "`", "{", "|", "}", "~", "\x7f", "\x80", "\xff"} {
		if a := got(Words("1" + s)); !a.is(refused(1, api.ErrForm)) {
			t.Errorf("Words of %q: %v", "1"+s, a)
		}
	}
}

// P7.1: the first fault is told, wherever it is, and no token beside it.
func TestFirstFault(t *testing.T) {
	faults := map[string]api.Errno{"?": api.ErrForm, ".5": api.ErrForm, `"a`: api.ErrForm, "#N": api.ErrForm, "_": api.ErrForm, "\x80": api.ErrForm, strings.Repeat("7", 41): api.ErrForm, strings.Repeat("7", 40): api.ErrLong, "922337203685478": api.ErrLong}
	for _, good := range []string{"", " ", "A1+", `SUM( "a""b" , `, "1.5 ", "#REF! ", "   <> ", strings.Repeat("A1+", 60)} {
		for bad, e := range faults {
			for _, behind := range []string{"", " ", " A1", "+1", " ?", " .5", " 922337203685478"} {
				s := good + bad + behind
				if a := got(Words(s)); !a.is(refused(len(good), e)) {
					t.Errorf("Words of %q: %v", s, a)
				}
			}
		}
	}
}

// P7.2: places rise, each token by itself is what stands from its place on, and nothing but blanks is left out.
func TestInOrder(t *testing.T) {
	see := func(s string) {
		tokens, _, e := Words(s)
		if e != api.OK {
			return
		}
		if last := tokens[len(tokens)-1]; last != theEnd(len(s)) {
			t.Errorf("Words of %q: the last is %+v", s, last)
		}
		if ahead := s[:tokens[0].At]; strings.Trim(ahead, " ") != "" {
			t.Errorf("Words of %q: %q is left out", s, ahead)
		}
		for i, token := range tokens[:len(tokens)-1] {
			if token.At >= tokens[i+1].At || token.K == api.TokEnd {
				t.Errorf("Words of %q: %+v", s, tokens)
				return
			}
			own := strings.TrimRight(s[token.At:tokens[i+1].At], " ")
			alone := token
			alone.At = 0
			if a := got(Words(own)); !a.is(these(alone, theEnd(len(own)))) {
				t.Errorf("Words of %q: %+v, of %q alone: %v", s, token, own, a)
			}
		}
	}
	for _, s := range []string{`SUM(A1:$B2)<>"a""b"`, `  IF( A1 >= 2.50 ,"a  ", #REF! )  `, "1 2 3", strings.Repeat("A1 + ", 60)} {
		see(s)
	}
	texts(`1."A< `, 6, see)
	for _, a := range pieces() {
		for _, b := range pieces() {
			see(a + b)
			see(" " + a + "  " + b + " ")
		}
	}
}

// P7.3: blanks ahead and behind change nothing but places.
func TestBlanksAheadAndBehind(t *testing.T) {
	for _, a := range pieces() {
		for _, b := range pieces() {
			blanksRight(t, a+b)
			blanksRight(t, a+"+"+b)
		}
	}
	for _, s := range []string{`SUM(A1:$B2)<>"a""b"`, "", "A", "1+?", strings.Repeat("A", 290), strings.Repeat("-", 300), `"` + strings.Repeat("a", 200)} {
		blanksRight(t, s)
	}
}

// blanksRight holds what Words answers of s with blanks ahead and behind against what it answers of s.
func blanksRight(t *testing.T, s string) {
	t.Helper()
	plain := got(Words(s))
	for _, ahead := range []int{0, 1, 2, 7, 300 - len(s)} {
		for _, behind := range []int{0, 1, 5, 300 - len(s) - ahead, 301 - len(s) - ahead} {
			if ahead < 0 || behind < 0 {
				continue
			}
			// A text that does not end takes blanks behind it in, and still does not end.
			wide := strings.Repeat(" ", ahead) + s + strings.Repeat(" ", behind)
			want := answer{slices.Clone(plain.tokens), plain.at, plain.e}
			for i := range want.tokens {
				want.tokens[i].At += ahead
			}
			if want.e == api.OK {
				want.tokens[len(want.tokens)-1].At = len(wide)
			} else {
				want.at += ahead
			}
			if len(wide) > 300 {
				want = refused(0, api.ErrLong)
			}
			if a := got(Words(wide)); !a.is(want) {
				t.Errorf("Words of %q, %d blanks ahead, %d behind: %v, not %v", s, ahead, behind, a, want)
			}
		}
	}
}

// Memory: an answer is new, its spare room too, and hangs on the formula alone.
func TestNewMemory(t *testing.T) {
	const s = `SUM(A1:B2)+"a"`
	want := asked(s)
	first := got(Words(s))
	second := got(Words(s))
	for _, a := range []answer{first, second} {
		if !a.is(want) {
			t.Fatalf("Words of %q: %v", s, a)
		}
	}
	whole := first.tokens[:cap(first.tokens)]
	for i := range whole {
		whole[i] = api.Token{K: -1, At: -1, S: "?"}
	}
	Words("?")
	if third := got(Words(s)); !second.is(want) || !third.is(want) {
		t.Errorf("Words of %q, once an answer was written over: %v, %v", s, second, third)
	}
}
