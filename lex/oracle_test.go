package lex

import (
	"fmt"
	"math/big"
	"regexp"
	"slices"
	"strings"
	"testing"

	"cadastre/api"
)

// What the chapter's words come to, reckoned apart from the package: at each place all five kinds are tried, and the longest is taken.

var (
	numberForm = regexp.MustCompile(`^[0-9]+(\.[0-9]+)?`)
	wordForm   = regexp.MustCompile(`^[A-Za-z$][A-Za-z0-9$_]*`)
	errorForm  = regexp.MustCompile(`^#(REF!|VALUE!|DIV/0!|NUM!|CYCLE!)`)
	signForm   = regexp.MustCompile(`^(<>|[<>]=|[-<>=+*/&(),:])`)
)

// answer is what Words answers.
type answer struct {
	tokens []api.Token
	at     int
	e      api.Errno
}

func got(tokens []api.Token, at int, e api.Errno) answer { return answer{tokens, at, e} }

func (a answer) String() string { return fmt.Sprintf("%+v, %d, %d", a.tokens, a.at, int(a.e)) }

func (a answer) is(b answer) bool {
	return slices.Equal(a.tokens, b.tokens) && a.at == b.at && a.e == b.e
}

// asked is what Words should answer.
func asked(s string) answer {
	if len(s) > 300 {
		return answer{e: api.ErrLong}
	}
	var tokens []api.Token
	rest := strings.TrimLeft(s, " ")
	for rest != "" {
		at := len(s) - len(rest)
		token, length, e := longest(rest)
		if e != api.OK {
			return answer{nil, at, e}
		}
		token.At = at
		tokens = append(tokens, token)
		rest = strings.TrimLeft(rest[length:], " ")
	}
	return answer{append(tokens, api.Token{K: api.TokEnd, At: len(s)}), 0, api.OK}
}

// longest is the longest token with which s begins, how many bytes it has, and the error if it can't be.
func longest(s string) (api.Token, int, api.Errno) {
	best, length, fault := api.Token{}, 0, api.ErrForm
	see := func(token api.Token, size int, e api.Errno) {
		if size > length {
			best, length, fault = token, size, e
		}
	}
	n, e := rounded(numberForm.FindString(s))
	see(api.Token{K: api.TokNum, N: n}, len(numberForm.FindString(s)), e)
	inside, size := quoted(s)
	see(api.Token{K: api.TokText, S: inside}, size, api.OK)
	word := wordForm.FindString(s)
	see(api.Token{K: api.TokWord, S: word}, len(word), api.OK)
	name := errorForm.FindString(s)
	which := 1 + slices.Index([]string{"#REF!", "#VALUE!", "#DIV/0!", "#NUM!", "#CYCLE!"}, name)
	see(api.Token{K: api.TokErr, E: which}, len(name), api.OK)
	sign := signForm.FindString(s)
	see(api.Token{K: api.TokSign, S: sign}, len(sign), api.OK)
	if fault != api.OK {
		return api.Token{}, 0, fault
	}
	return best, length, fault
}

// rounded is the number that a numeral says, by fractions of any size.
func rounded(s string) (int64, api.Errno) {
	ahead, behind, _ := strings.Cut(s, ".")
	if s == "" || len(ahead) > 40 || len(behind) > 40 {
		return 0, api.ErrForm
	}
	said, _ := new(big.Rat).SetString(s)
	said.Mul(said, big.NewRat(10000, 1))
	said.Add(said, big.NewRat(1, 2))
	n := new(big.Int).Quo(said.Num(), said.Denom())
	if !n.IsInt64() {
		return 0, api.ErrLong
	}
	return n.Int64(), api.OK
}

// quoted is the text with which s begins and how many bytes it has with its quotes, by rows of quotes: the first row of an odd number of them is the end.
func quoted(s string) (string, int) {
	if !strings.HasPrefix(s, `"`) {
		return "", 0
	}
	inside, rest := "", s[1:]
	for rest != "" {
		other := strings.TrimLeft(rest, `"`)
		row := len(rest) - len(other)
		inside += strings.Repeat(`"`, row/2)
		if row%2 == 1 {
			return inside, len(s) - len(other)
		}
		plain, _, _ := strings.Cut(other, `"`)
		inside += plain
		rest = other[len(plain):]
	}
	return "", 0
}

// same holds what Words answers of s against what it should.
func same(t *testing.T, s string) {
	t.Helper()
	if a, want := got(Words(s)), asked(s); !a.is(want) {
		t.Errorf("Words of %d bytes, %.60q: %v, not %v", len(s), s, a, want)
	}
}

// texts shows all texts of at most so many of these bytes.
func texts(bytes string, most int, see func(s string)) {
	var grow func(s string)
	grow = func(s string) {
		see(s)
		if len(s) == most {
			return
		}
		for i := range len(bytes) {
			grow(s + bytes[i:i+1])
		}
	}
	grow("")
}

// pieces are words of each kind and what is none, to be put together.
func pieces() []string {
	return []string{
		"", " ", "  ", "\t", "0", "12", "1.5", "1.", ".5", ".", "99999999999999999999", strings.Repeat("0", 41),
		`""`, `"a"`, `"a b"`, `"a""b"`, `"`, `"a`, `""""`, "A", "sum", "$B$2", "A_1", "_", "TRUE",
		"#REF!", "#DIV/0!", "#REF", "#", "!", "<>", "<=", ">=", "<", ">", "=", "+", "-", "(", ")", ",", ":", ";", "\xe9",
	}
}
