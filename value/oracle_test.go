package value

import (
	"math/big"
	"regexp"
	"strings"

	"cadastre/api"
)

// What the chapter's words come to, said apart from the package: numerals by a pattern, numbers as fractions without bounds.

const least = -1 << 63

var pattern = regexp.MustCompile(`\A-?[0-9]{1,40}(\.[0-9]{1,40})?\z`)

var (
	blank = api.Value{}
	truly = api.Value{K: 1, N: 1}
	falsy = api.Value{K: 1}
)

func failed(e int) api.Value { return api.Value{K: 4, E: e} }

// rounded is a number of so many parts, the nearest, of two the one farther from 0; an error where there is none.
func rounded(parts *big.Rat) api.Value {
	size := new(big.Rat).Abs(parts)
	size.Add(size, big.NewRat(1, 2))
	n := new(big.Int).Quo(size.Num(), size.Denom())
	if n.Cmp(big.NewInt(api.Most)) > 0 {
		return failed(4)
	}
	if parts.Sign() < 0 {
		n.Neg(n)
	}
	return api.Value{K: 2, N: n.Int64()}
}

// said is what a value is: P4.1, Normal.
func said(v api.Value) api.Value {
	switch {
	case v.K == 1 && v.N == 0:
		return falsy
	case v.K == 1:
		return truly
	case v.K == 2 && v.N == least:
		return failed(4)
	case v.K == 2:
		return api.Value{K: 2, N: v.N}
	case v.K == 3 && len(v.S) > 300:
		return failed(2)
	case v.K == 3:
		return api.Value{K: 3, S: v.S}
	case v.K == 4 && 1 <= v.E && v.E <= 5:
		return failed(v.E)
	case v.K == 4:
		return failed(2)
	}
	return blank
}

func errorText(e int) string {
	return map[int]string{1: "#REF!", 2: "#VALUE!", 3: "#DIV/0!", 4: "#NUM!", 5: "#CYCLE!"}[e]
}

// shown is P4.1, Show.
func shown(v api.Value) string {
	v = said(v)
	switch v.K {
	case 1:
		return []string{"FALSE", "TRUE"}[v.N]
	case 2:
		s := big.NewRat(v.N, 10000).FloatString(4)
		return strings.TrimSuffix(strings.TrimRight(s, "0"), ".")
	case 3:
		return v.S
	case 4:
		return errorText(v.E)
	}
	return ""
}

// asNumber is P4.2, ToNum.
func asNumber(v api.Value) api.Value {
	v = said(v)
	switch {
	case v.K == 4:
		return v
	case v.K == 3 && pattern.MatchString(v.S):
		r, _ := new(big.Rat).SetString(v.S)
		return rounded(r.Mul(r, big.NewRat(10000, 1)))
	case v.K == 3:
		return failed(2)
	case v == truly:
		return api.Value{K: 2, N: 10000}
	case v.K == 2:
		return v
	}
	return api.Value{K: 2}
}

// asText is P4.2, ToText.
func asText(v api.Value) api.Value {
	if v = said(v); v.K == 4 {
		return v
	}
	return api.Value{K: 3, S: shown(v)}
}

// asBool is P4.2, ToBool.
func asBool(v api.Value) api.Value {
	v = said(v)
	switch {
	case v.K == 4:
		return v
	case v.K == 3 && v.S == "TRUE", v.K == 2 && v.N != 0, v == truly:
		return truly
	case v.K == 3 && v.S != "FALSE":
		return failed(2)
	}
	return falsy
}

// ahead tells whether a is ahead of b: P4.3, neither of them an error.
func ahead(a, b api.Value) bool {
	a, b = said(a), said(b)
	if a.K == 0 && b.K == 0 {
		return false
	}
	if a.K == 0 {
		a = api.Value{K: b.K}
	}
	if b.K == 0 {
		b = api.Value{K: a.K}
	}
	switch {
	case a.K == 2 && b.K == 2:
		return a.N < b.N
	case a.K == 3 && b.K == 3:
		return begins(a.S, b.S)
	case a.K == 1 && b.K == 1:
		return a == falsy && b == truly
	}
	return a.K == 2 || a.K == 3 && b.K == 1
}

// begins is the order of texts, byte by byte.
func begins(a, b string) bool {
	for i := 0; i < len(a) && i < len(b); i++ {
		if a[i] != b[i] {
			return a[i] < b[i]
		}
	}
	return len(a) < len(b)
}

// held is P4.3, Compare.
func held(a, b api.Value) (int, api.Value) {
	switch {
	case said(a).K == 4:
		return 0, said(a)
	case said(b).K == 4:
		return 0, said(b)
	case ahead(a, b):
		return -1, blank
	case ahead(b, a):
		return 1, blank
	}
	return 0, blank
}

// reckoned is P4.4, Arith.
func reckoned(op byte, a, b api.Value) api.Value {
	if !strings.Contains("+-*/", string(rune(op))) {
		return failed(2)
	}
	a, b = asNumber(a), asNumber(b)
	if a.K == 4 {
		return a
	}
	if b.K == 4 {
		return b
	}
	x, y, one := big.NewRat(a.N, 1), big.NewRat(b.N, 1), big.NewRat(10000, 1)
	r := new(big.Rat)
	switch {
	case op == '+':
		r.Add(x, y)
	case op == '-':
		r.Sub(x, y)
	case op == '*':
		r.Mul(x, y).Quo(r, one)
	case y.Sign() == 0:
		return failed(3)
	default:
		r.Quo(x, y).Mul(r, one)
	}
	return rounded(r)
}

// joined is P4.4, Join.
func joined(a, b api.Value) api.Value {
	a, b = asText(a), asText(b)
	switch {
	case a.K == 4:
		return a
	case b.K == 4:
		return b
	case len(a.S)+len(b.S) > 300:
		return failed(2)
	}
	return api.Value{K: 3, S: a.S + b.S}
}

// read is P4.5, Literal.
func read(s string) api.Value {
	for e := 1; e <= 5; e++ {
		if s == errorText(e) {
			return failed(e)
		}
	}
	switch {
	case s == "":
		return blank
	case s[0] == '\'':
		return said(api.Value{K: 3, S: s[1:]})
	case s == "TRUE":
		return truly
	case s == "FALSE":
		return falsy
	case pattern.MatchString(s):
		return asNumber(api.Value{K: 3, S: s})
	}
	return said(api.Value{K: 3, S: s})
}

func letters(n int) string { return strings.Repeat("x", n) }

// texts: numerals and near ones, truths and errors in other letters, texts that begin one another, long ones.
func texts() []string {
	return []string{
		"", " ", "a", "A", "ab", "abc", "b", "aa", "a\x00", "\x00", "\xff", "\xfe\xff", "z", "Z", "~", "é",
		"0", "-0", "00", "1", "-1", "1.5", "01.50", "2", "10", "9", "0.0001", "0.00005", "0.00004", "-0.00005", "1.", ".5", "+1", " 1", "1 ", "1e3", "1,5", "--1", "none",
		"922337203685477.5807", "-922337203685477.5807", "922337203685477.58074999", "922337203685477.58075", "922337203685477.5808", "-922337203685477.5808",
		strings.Repeat("9", 30), strings.Repeat("9", 40), strings.Repeat("9", 41), "-" + strings.Repeat("9", 40), strings.Repeat("0", 41), "0." + strings.Repeat("0", 41), strings.Repeat("0", 39) + "7",
		"TRUE", "FALSE", "true", "false", "True", "False", "TRUE ", " TRUE", "TRU", "TRUEE", "FALS", "T", "F", "YES", "'TRUE", "tRUE",
		"#REF!", "#VALUE!", "#DIV/0!", "#NUM!", "#CYCLE!", "#ref!", "#REF", "REF!", "#REF!!", " #REF!", "#N/A", "#", "#NAME?", "'#REF!", "#DIV/O!", "#Num!",
		"'", "''", "'1", "'a", "'TRUE", "''TRUE", "a'", " 'a", "' a", "=1", "=A1", "'=1", "\"a\"", "\n", "a\nb",
		letters(149), letters(150), letters(151), letters(299), letters(300), letters(301), letters(302), letters(5000), "'" + letters(299), "'" + letters(300), "'" + letters(301),
		letters(299) + "w", letters(299) + "y", letters(300) + "y",
	}
}

// numbers: those at the edges, both signs, and the least int64, which is none.
func numbers() []int64 {
	l := []int64{0, least}
	for _, a := range []int64{1, 2, 5, 9, 4999, 5000, 5001, 9999, 10000, 10001, 15000, 20000, 30000, 123456, 1e9, 1 << 32, 1 << 53, 3e18, 1 << 62, api.Most / 2, api.Most/2 + 1, api.Most - 10000, api.Most - 1, api.Most} {
		l = append(l, a, -a)
	}
	return l
}

// values: of each kind and of kinds that can't be, each also with what plays no part.
func values() []api.Value {
	l := []api.Value{{}}
	for _, n := range numbers() {
		l = append(l, api.Value{K: 2, N: n}, api.Value{K: 2, N: n, S: "1", E: 3}, api.Value{K: 1, N: n}, api.Value{K: 1, N: n, S: "FALSE", E: 9})
	}
	for _, s := range texts() {
		l = append(l, api.Value{K: 3, S: s}, api.Value{K: 3, S: s, N: least, E: 1})
	}
	for _, e := range []int{1, 2, 3, 4, 5, 0, 6, 7, -1, 100, least, 1<<63 - 1} {
		l = append(l, api.Value{K: 4, E: e}, api.Value{K: 4, E: e, N: 1, S: letters(301)})
	}
	for _, k := range []int{0, 5, 6, -1, -2, 100, least, 1<<63 - 1} {
		l = append(l, api.Value{K: k}, api.Value{K: k, N: 1, S: "a", E: 1}, api.Value{K: k, N: least, S: letters(301), E: 7})
	}
	return l
}

// kinds are fewer values, one or some of each kind: enough to hold three against one another.
func kinds() []api.Value {
	l := []api.Value{{}, {K: 9, N: 3, S: "a", E: 1}, {K: 1}, {K: 1, N: 1}, {K: 1, N: -7}}
	for _, n := range []int64{0, 1, -1, 10000, -10000, 20000, api.Most, -api.Most, least} {
		l = append(l, api.Value{K: 2, N: n})
	}
	for _, s := range []string{"", "0", "1", "10", "2", "-1", "a", "ab", "b", "A", "\x00", "\xff", "TRUE", "FALSE", "true", "#REF!", strings.Repeat("9", 20), letters(300), letters(301)} {
		l = append(l, api.Value{K: 3, S: s})
	}
	for e := 0; e <= 6; e++ {
		l = append(l, api.Value{K: 4, E: e})
	}
	return l
}
