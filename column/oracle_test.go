package column

import (
	"fmt"
	"math"
	"math/big"
	"math/rand/v2"
	"regexp"
	"slices"
	"strings"
	"testing"

	"cadastre/api"
)

// What the chapter's words come to, said apart from the package: a lane is a word ("12500", or "#1" for the error 1), a column a list of words; texts are read as fractions without bounds.

// word is a lane as a word: "no" of one that can't be.
func word(n int64, e int) string {
	switch {
	case e == 0 && n != math.MinInt64:
		return fmt.Sprint(n)
	case e >= 1 && e <= 5 && n == 0:
		return fmt.Sprint("#", e)
	}
	return "no"
}

// words are a column's lanes as words, and whether it can be.
func words(v api.Vec) ([]string, bool) {
	if len(v.N) != len(v.E) || len(v.N) > 1000 {
		return nil, false
	}
	var out []string
	for i := range v.N {
		out = append(out, word(v.N[i], v.E[i]))
	}
	return out, !slices.Contains(out, "no")
}

// told is a value as a lane of numbers or of an area, and whether it is a number or nothing.
func told(v api.Value, area bool) (string, bool) {
	switch v.K {
	case api.Bool:
		if v.N != 0 && !area {
			return "10000", false
		}
		return "0", false
	case api.Number:
		if v.N == math.MinInt64 {
			return "#4", false
		}
		return fmt.Sprint(v.N), true
	case api.Text:
		switch {
		case len(v.S) > 300:
			return "#2", false
		case area:
			return "0", false
		}
		return read(v.S), false
	case api.Error:
		if v.E < 1 || v.E > 5 {
			return "#2", false
		}
		return fmt.Sprint("#", v.E), false
	}
	return "0", true
}

var numeral = regexp.MustCompile(`^-?[0-9]{1,40}(\.[0-9]{1,40})?$`)

// read is a text as a lane: the nearest ten thousandths, of two the ones farther from 0.
func read(s string) string {
	if !numeral.MatchString(s) {
		return "#2"
	}
	exact, _ := new(big.Rat).SetString(strings.TrimPrefix(s, "-"))
	exact.Mul(exact, big.NewRat(20000, 1)).Add(exact, big.NewRat(1, 1))
	n := new(big.Int).Quo(exact.Num(), new(big.Int).Mul(exact.Denom(), big.NewInt(2)))
	if !n.IsInt64() {
		return "#4"
	}
	if s[0] == '-' {
		n.Neg(n)
	}
	return n.String()
}

// holdOf holds Of against what is told here.
func holdOf(t *testing.T, l []api.Value, area bool) {
	t.Helper()
	var want []string
	plain := true
	for _, v := range l {
		lane, is := told(v, area)
		want, plain = append(want, lane), plain && is
	}
	v, is := Of(l, area)
	got, can := words(v)
	if !can || !slices.Equal(got, want) {
		t.Fatalf("Of %s, area %v: %s, not %s", brief(l), area, brief(v), brief(want))
	}
	if is != plain {
		t.Fatalf("Of %s, area %v: %v", brief(l), area, is)
	}
}

// holdValues holds Values against a column's words.
func holdValues(t *testing.T, v api.Vec) {
	t.Helper()
	var want []api.Value
	list, can := words(v)
	for i, w := range list {
		switch {
		case !can:
		case strings.HasPrefix(w, "#"):
			want = append(want, api.Value{K: 4, E: v.E[i]})
		default:
			want = append(want, api.Value{K: 2, N: v.N[i]})
		}
	}
	if got := Values(v); !slices.Equal(got, want) {
		t.Fatalf("Values of %s: %s, not %s", brief(v), brief(got), brief(want))
	}
}

// holdSlice holds Slice against a column's words.
func holdSlice(t *testing.T, v api.Vec, from, to int) {
	t.Helper()
	list, can := words(v)
	got, e := Slice(v, from, to)
	if !can || from < 0 || to < from || len(list) < to {
		isRefused(t, fmt.Sprint("Slice of ", brief(v), " from ", from, " to ", to), got, e, api.ErrArg)
		return
	}
	isColumn(t, fmt.Sprint("Slice of ", brief(v), " from ", from, " to ", to), got, e, list[from:to])
}

// holdJoin holds Join against the columns' words.
func holdJoin(t *testing.T, a, b api.Vec) {
	t.Helper()
	first, canFirst := words(a)
	second, canSecond := words(b)
	got, e := Join(a, b)
	what := fmt.Sprint("Join of ", brief(a), " and ", brief(b))
	switch {
	case !canFirst || !canSecond:
		isRefused(t, what, got, e, api.ErrArg)
	case len(first)+len(second) > 1000:
		isRefused(t, what, got, e, api.ErrLong)
	default:
		isColumn(t, what, got, e, slices.Concat(first, second))
	}
}

// isRefused holds that an answer is an error, and nothing beside it.
func isRefused(t *testing.T, what string, got api.Vec, e, want api.Errno) {
	t.Helper()
	if e != want || len(got.N) != 0 || len(got.E) != 0 {
		t.Fatalf("%s: %s, %d, not %d", what, brief(got), e, want)
	}
}

// isColumn holds that an answer is a column of these words.
func isColumn(t *testing.T, what string, got api.Vec, e api.Errno, want []string) {
	t.Helper()
	list, can := words(got)
	if e != api.OK || !can || !slices.Equal(list, want) {
		t.Fatalf("%s: %s, %d, not %s", what, brief(got), e, brief(want))
	}
}

// brief is a thing as a text, not too long.
func brief(v any) string {
	s := fmt.Sprintf("%v", v)
	if len(s) > 300 {
		return fmt.Sprintf("%s .. (%d bytes)", s[:300], len(s))
	}
	return s
}

// numbers is a column of numbers; errors one of errors.
func numbers(n ...int64) api.Vec { return api.Vec{N: n, E: make([]int, len(n))} }

func errors(e ...int) api.Vec { return api.Vec{N: make([]int64, len(e)), E: e} }

// long is a column of the numbers 1 to n, every seventh an error in its place.
func long(n int) api.Vec {
	var v api.Vec
	for i := range n {
		if i%7 == 6 {
			v.N, v.E = append(v.N, 0), append(v.E, 1+i%5)
			continue
		}
		v.N, v.E = append(v.N, int64(i+1)), append(v.E, 0)
	}
	return v
}

// copied is a column with lists of its own, without spare room.
func copied(v api.Vec) api.Vec {
	return api.Vec{N: slices.Clip(slices.Clone(v.N)), E: slices.Clip(slices.Clone(v.E))}
}

// alike tells whether two columns have the same lists.
func alike(a, b api.Vec) bool { return slices.Equal(a.N, b.N) && slices.Equal(a.E, b.E) }

const (
	leastNumber = math.MinInt64
	mostNumber  = math.MaxInt64
)

// sound are columns that can be.
func sound() []api.Vec {
	return []api.Vec{
		{}, {N: []int64{}, E: []int{}}, {N: nil, E: []int{}}, {N: []int64{}},
		numbers(0), numbers(1), numbers(-1), numbers(mostNumber), numbers(-mostNumber), numbers(10000, -25000, 0),
		errors(1), errors(2), errors(3), errors(4), errors(5), errors(5, 4, 3, 2, 1), errors(0, 1, 0),
		{N: []int64{3, 0, -7, 0}, E: []int{0, 2, 0, 5}},
		long(10), long(999), long(1000), numbers(make([]int64, 1000)...),
	}
}

// wrong are columns that can't be.
func wrong() []api.Vec {
	out := []api.Vec{
		{N: []int64{1}}, {E: []int{0}}, {E: []int{1}}, {N: []int64{1, 2}, E: []int{0}}, {N: []int64{1}, E: []int{0, 0}}, {N: []int64{0}, E: []int{0, 1, 2}},
		{N: []int64{1, 2, 3}, E: []int{}}, {N: make([]int64, 1000), E: make([]int, 999)}, {N: make([]int64, 999), E: make([]int, 1000)}, {N: make([]int64, 1000), E: make([]int, 1001)},
		long(1001), long(1002), long(5000), numbers(make([]int64, 1001)...),
		numbers(leastNumber), numbers(1, leastNumber), numbers(leastNumber, 1), numbers(1, leastNumber, 1),
		{N: []int64{leastNumber}, E: []int{2}},
	}
	for _, e := range []int{6, 7, -1, -2, -5, 256, 257, 1 << 32, 1<<32 + 1, math.MaxInt, math.MinInt, math.MinInt + 1} {
		out = append(out, errors(e), errors(1, e), errors(e, 0))
	}
	for e := 1; e <= 5; e++ {
		for _, n := range []int64{1, -1, 10000, mostNumber, -mostNumber, leastNumber, 1 << 32} {
			out = append(out, api.Vec{N: []int64{n}, E: []int{e}}, api.Vec{N: []int64{4, n}, E: []int{0, e}}, api.Vec{N: []int64{n, 4}, E: []int{e, 0}})
		}
	}
	return out
}

// texts are texts that are numerals, and that are none.
func texts() []string {
	return []string{
		"", "0", "-0", "1", "2", "-1.5", "1.5", "0.00005", "0.00004", "-0.00005", "007", "1.", ".5", "-", "--1", "+1", " 1", "1 ", "1,5", "1e3", "x", "TRUE", "FALSE", "#REF!", "#DIV/0!", "'1", "1.2.3", "\x00", "1\n",
		"922337203685477.5807", "922337203685477.5808", "-922337203685477.5807", "-922337203685477.5808", "922337203685477.58074", "922337203685477.58075", "99999999999999999999",
		strings.Repeat("9", 40), strings.Repeat("9", 41), strings.Repeat("0", 40), strings.Repeat("0", 41), "1." + strings.Repeat("0", 40), "1." + strings.Repeat("0", 41),
		strings.Repeat("x", 300), strings.Repeat("x", 301), strings.Repeat("1", 300), strings.Repeat("1", 301),
	}
}

// normal are values as value.Normal has them; odd ones are not so.
func normal() []api.Value {
	out := []api.Value{{}, {K: 1}, {K: 1, N: 1}, {K: 2}, {K: 2, N: 1}, {K: 2, N: -1}, {K: 2, N: 10000}, {K: 2, N: mostNumber}, {K: 2, N: -mostNumber}}
	for _, s := range texts() {
		if len(s) <= 300 {
			out = append(out, api.Value{K: 3, S: s})
		}
	}
	for e := 1; e <= 5; e++ {
		out = append(out, api.Value{K: 4, E: e})
	}
	return out
}

func odd() []api.Value {
	out := []api.Value{
		{K: 0, N: 5}, {K: 0, S: "7"}, {K: 0, E: 3}, {K: 0, N: 5, S: "7", E: 3},
		{K: 1, N: 2}, {K: 1, N: -1}, {K: 1, N: leastNumber}, {K: 1, N: 1, S: "x", E: 2}, {K: 1, S: "1", E: 1},
		{K: 2, N: leastNumber}, {K: 2, N: 5, S: "x"}, {K: 2, N: 5, E: 1}, {K: 2, N: leastNumber, S: "1", E: 3}, {K: 2, S: "9"},
		{K: 3, S: "2", N: 7}, {K: 3, S: "2", E: 1}, {K: 3, S: "x", N: 3, E: 3}, {K: 3, N: 4}, {K: 3, S: strings.Repeat("1", 301)}, {K: 3, S: strings.Repeat("x", 1000), E: 3},
		{K: 4}, {K: 4, E: 6}, {K: 4, E: -1}, {K: 4, E: math.MinInt}, {K: 4, E: math.MaxInt}, {K: 4, E: 1 << 32}, {K: 4, E: 3, N: 5}, {K: 4, E: 5, S: "4"}, {K: 4, N: 3, S: "#REF!"},
	}
	for _, k := range []int{5, 6, -1, 256, 258, 1 << 32, 1<<32 + 2, math.MaxInt, math.MinInt} {
		out = append(out, api.Value{K: k}, api.Value{K: k, N: 10000, S: "5", E: 2}, api.Value{K: k, N: leastNumber})
	}
	return out
}

func every() []api.Value { return slices.Concat(normal(), odd()) }

// chance makes lists and columns by chance, the same in every run.
type chance struct {
	*rand.Rand
}

func byChance(seed uint64) chance { return chance{rand.New(rand.NewPCG(19, seed))} }

func (c chance) values(from []api.Value, count int) []api.Value {
	var out []api.Value
	for range count {
		out = append(out, from[c.IntN(len(from))])
	}
	return out
}

// column is a column that can be, of any numbers and errors.
func (c chance) column(count int) api.Vec {
	var v api.Vec
	for range count {
		n, e := int64(c.Uint64()), 0
		switch c.IntN(4) {
		case 0:
			n, e = 0, 1+c.IntN(5)
		case 1:
			n %= 50
		}
		if n == leastNumber {
			n = 0
		}
		v.N, v.E = append(v.N, n), append(v.E, e)
	}
	return v
}

// spoilt is a column with one lane that can't be.
func (c chance) spoilt(v api.Vec) api.Vec {
	v = copied(v)
	at := c.IntN(len(v.N))
	switch c.IntN(4) {
	case 0:
		v.N[at], v.E[at] = leastNumber, 0
	case 1:
		v.N[at], v.E[at] = 1+c.Int64N(100), 1+c.IntN(5)
	case 2:
		v.N[at], v.E[at] = 0, 6+c.IntN(100)
	case 3:
		v.N[at], v.E[at] = 0, -1-c.IntN(100)
	}
	return v
}
