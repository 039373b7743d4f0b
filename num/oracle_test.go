package num

import (
	"math/big"
	"regexp"
	"strings"
	"testing"

	"cadastre/api"
)

// What the chapter's words come to in fractions without bounds, reckoned apart from the package.

const least = -1 << 63

var numeral = regexp.MustCompile(`\A-?[0-9]{1,40}(\.[0-9]{1,40})?\z`)

// read is P3.1 in fractions.
func read(s string) (int64, int) {
	if !numeral.MatchString(s) {
		return 0, 0
	}
	said, _ := new(big.Rat).SetString(s)
	n := nearest(said.Mul(said, big.NewRat(api.One, 1)))
	if new(big.Int).Abs(n).Cmp(big.NewInt(api.Most)) > 0 {
		return 0, 2
	}
	return n.Int64(), 1
}

// nearest is the whole number nearest to r, of two the one farther from 0.
func nearest(r *big.Rat) *big.Int {
	size := new(big.Rat).Abs(r)
	size.Add(size, big.NewRat(1, 2))
	n := new(big.Int).Quo(size.Num(), size.Denom())
	if r.Sign() < 0 {
		n.Neg(n)
	}
	return n
}

// written is P3.2 in fractions.
func written(a int64) string {
	if a == least {
		return "none"
	}
	s := big.NewRat(a, api.One).FloatString(4)
	return strings.TrimSuffix(strings.TrimRight(s, "0"), ".")
}

// numbers: the edges of both signs, their neighbours, and made-up numbers of all sizes.
func numbers() []int64 {
	l := []int64{
		0, 1, 5, 9, 10, 11, 99, 100, 101, 999, 1000, 1001, 1010, 1100, 1234, 5000, 9990, 9999, 10000, 10001, 10010, 10100, 11000,
		12345, 12340, 12300, 12500, 90000, 99999, 100000, 100001, 1000000, 10000000, 10203040, 1 << 31, 1 << 32, 1 << 53, 1 << 62,
		1e18, 9e18, 9223372036854770000, 9223372036854775800, api.Most - 7, api.Most - 1, api.Most,
	}
	state := uint64(1)
	next := func() uint64 {
		state = state*6364136223846793005 + 1442695040888963407
		return state ^ state>>29
	}
	power := int64(1)
	for range 18 {
		l = append(l, power-1, power, power+1)
		power *= 10
	}
	for range 5000 {
		l = append(l, int64(next()>>1)>>(next()%63))
	}
	for _, a := range l {
		l = append(l, -a)
	}
	return l
}

// texts shows all texts of at most so many of these bytes.
func texts(bytes string, most int, see func(s string)) {
	var grow func(s string)
	grow = func(s string) {
		see(s)
		if len(s) == most {
			return
		}
		for i := range len(bytes) {
			grow(s + bytes[i:i+1])
		}
	}
	grow("")
}

type asked struct {
	n    int64
	kind int
}

func got(n int64, kind int) asked { return asked{n, kind} }

// same holds Parse of a text against what the chapter says.
func same(t *testing.T, s string) {
	t.Helper()
	if answer, want := got(Parse(s)), got(read(s)); answer != want {
		t.Errorf("Parse of %q: %v, not %v", s, answer, want)
	}
}
