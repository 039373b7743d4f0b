package funcs

import (
	"fmt"
	"math"
	"math/big"
	"math/rand/v2"
	"slices"
	"strings"

	"cadastre/api"
	"cadastre/fold"
	"cadastre/value"
)

// What the chapter's words come to, said apart from the package: what is named is laid out as a list ahead of all else, numbers are whole numbers without bounds.

const least = math.MinInt64

// takes is how many arguments functions have, at least and at most.
func takes() map[string][2]int {
	return map[string][2]int{
		"SUM": {1, 20}, "COUNT": {1, 20}, "MIN": {1, 20}, "MAX": {1, 20}, "AVERAGE": {1, 20}, "AND": {1, 20}, "OR": {1, 20}, "CONCAT": {1, 20},
		"IF": {2, 3}, "NOT": {1, 1}, "ABS": {1, 1}, "ROUND": {2, 2}, "MOD": {2, 2}, "FLOOR": {1, 1}, "SQRT": {1, 1},
		"LEN": {1, 1}, "LEFT": {1, 2}, "INDEX": {2, 3}, "ISERROR": {1, 1}, "IFERROR": {2, 2},
	}
}

// names are all functions' names.
func names() []string {
	var out []string
	for name := range takes() {
		out = append(out, name)
	}
	slices.Sort(out)
	return out
}

// ofMany are the functions that take areas as they come.
func ofMany() map[string]func(l []api.Arg) api.Value {
	return map[string]func(l []api.Arg) api.Value{
		"SUM": fold.Sum, "COUNT": fold.Count, "MIN": fold.Min, "MAX": fold.Max, "AVERAGE": fold.Average, "AND": fold.And, "OR": fold.Or, "CONCAT": fold.Concat,
	}
}

// said is what a call comes to.
func said(name string, l []api.Arg) api.Value {
	count, known := takes()[name]
	if !known || len(l) < count[0] || len(l) > count[1] {
		return value.Err(api.EValue)
	}
	if many, is := ofMany()[name]; is {
		return many(l)
	}
	if name == "INDEX" {
		return indexed(l)
	}
	return value.Normal(reckoned(name, singles(l)))
}

// singles are what arguments count as.
func singles(l []api.Arg) []api.Value {
	var out []api.Value
	for _, a := range l {
		first := append(slices.Clone(a.L), api.Value{})[0]
		if a.Area {
			first = api.Value{K: api.Error, E: api.EValue}
		}
		out = append(out, value.Normal(first))
	}
	return out
}

// named is what those of the table come to, or the first error of them.
func named(l ...api.Value) ([]api.Value, api.Value, bool) {
	for _, v := range l {
		if v.K == api.Error {
			return nil, v, false
		}
	}
	return l, api.Value{}, true
}

// reckoned is the table, but for INDEX.
func reckoned(name string, l []api.Value) api.Value {
	switch name {
	case "IF":
		return ifElse(append(l, value.Bool(false)))
	case "ISERROR":
		return value.Bool(l[0].K == api.Error)
	case "IFERROR":
		if l[0].K == api.Error {
			return l[1]
		}
		return l[0]
	case "NOT":
		return ifElse([]api.Value{l[0], value.Bool(false), value.Bool(true)})
	case "LEN", "LEFT":
		return ofText(name, append(l, value.Num(10000)))
	}
	var numbers []api.Value
	for _, v := range l {
		numbers = append(numbers, value.ToNum(v))
	}
	numbers, failed, ok := named(numbers...)
	if !ok {
		return failed
	}
	return ofNumbers(name, big.NewInt(numbers[0].N), big.NewInt(numbers[len(numbers)-1].N))
}

func ifElse(l []api.Value) api.Value {
	switch truth := value.ToBool(l[0]); truth {
	case value.Bool(true):
		return l[1]
	case value.Bool(false):
		return l[2]
	default:
		return truth
	}
}

func ofText(name string, l []api.Value) api.Value {
	text := value.ToText(l[0])
	if text.K == api.Error {
		return text
	}
	if name == "LEN" {
		return value.Num(int64(len([]byte(text.S))) * 10000)
	}
	count := value.ToNum(l[1])
	switch {
	case count.K == api.Error:
		return count
	case count.N < 0:
		return value.Err(api.EValue)
	}
	front := ""
	for i := 0; i < len(text.S) && below(i, count.N); i++ {
		front += string([]byte{text.S[i]})
	}
	return value.Text(front)
}

// below tells whether there is room for one more behind i of them.
func below(i int, n int64) bool {
	return big.NewRat(int64(i)+1, 1).Cmp(big.NewRat(n, 10000)) <= 0
}

func ofNumbers(name string, a, b *big.Int) api.Value {
	one := big.NewInt(10000)
	switch name {
	case "ABS":
		return parts(new(big.Int).Abs(a))
	case "ROUND":
		return rounded(a, wholeBelow(b))
	case "MOD":
		if b.Sign() == 0 {
			return value.Err(api.EDiv)
		}
		times := new(big.Int).Mul(b, ratioBelow(a, b))
		return parts(times.Sub(a, times))
	case "FLOOR":
		return parts(new(big.Int).Mul(wholeBelow(a), one))
	case "SQRT":
		if a.Sign() < 0 {
			return value.Err(api.ENum)
		}
		return parts(new(big.Int).Sqrt(new(big.Int).Mul(a, one)))
	}
	panic("no function: " + name)
}

// parts is a number of so many ten thousandths.
func parts(n *big.Int) api.Value {
	if n.CmpAbs(big.NewInt(api.Most)) > 0 {
		return value.Err(api.ENum)
	}
	return value.Num(n.Int64())
}

// wholeBelow is the whole number next below a number of ten thousandths.
func wholeBelow(n *big.Int) *big.Int { return ratioBelow(n, big.NewInt(10000)) }

// ratioBelow is the greatest whole number that is not above a by b.
func ratioBelow(a, b *big.Int) *big.Int {
	// Of a divisor above 0 big's Div goes downwards.
	if b.Sign() < 0 {
		a, b = new(big.Int).Neg(a), new(big.Int).Neg(b)
	}
	return new(big.Int).Div(a, b)
}

// rounded is a number with so many digits.
func rounded(a, digits *big.Int) api.Value {
	if digits.Cmp(big.NewInt(4)) >= 0 {
		return parts(a)
	}
	if digits.Cmp(big.NewInt(-14)) < 0 {
		return value.Num(0)
	}
	power := new(big.Int).Exp(big.NewInt(10), new(big.Int).Sub(big.NewInt(4), digits), nil)
	half := new(big.Rat).SetFrac(new(big.Int).Abs(a), power)
	half.Add(half, big.NewRat(1, 2))
	n := new(big.Int).Quo(half.Num(), half.Denom())
	n.Mul(n, power)
	if a.Sign() < 0 {
		n.Neg(n)
	}
	return parts(n)
}

// indexed is INDEX.
func indexed(l []api.Arg) api.Value {
	one := api.Arg{L: []api.Value{value.Num(10000)}}
	at := singles(append(slices.Clone(l), one)[1:3])
	at, failed, ok := named(value.ToNum(at[0]), value.ToNum(at[1]))
	if !ok {
		return failed
	}
	rows, cols, list := l[0].Rows, l[0].Cols, l[0].L
	if !l[0].Area {
		rows, cols, list = 1, 1, singles(l[:1])
	}
	row, col := wholeBelow(big.NewInt(at[0].N)), wholeBelow(big.NewInt(at[1].N))
	if !within(row, rows) || !within(col, cols) {
		return value.Err(api.ERef)
	}
	place := new(big.Int).Sub(row, big.NewInt(1))
	place.Mul(place, big.NewInt(int64(cols))).Add(place, col)
	if !within(place, len(list)) {
		return value.Err(api.ERef)
	}
	return value.Normal(list[place.Int64()-1])
}

// within tells whether n is from 1 to most.
func within(n *big.Int, most int) bool {
	return n.Sign() > 0 && n.Cmp(big.NewInt(int64(most))) <= 0
}

// plain is an argument that is no area, of cells' texts; area one of one column; grid one of so many rows and columns.
func plain(texts ...string) api.Arg { return api.Arg{L: literals(texts)} }

func area(texts ...string) api.Arg { return grid(len(texts), 1, texts...) }

func grid(rows, cols int, texts ...string) api.Arg {
	return api.Arg{Area: true, Rows: rows, Cols: cols, L: literals(texts)}
}

// alone is an argument that is no area, of values as they stand; with an area of one column.
func alone(l ...api.Value) api.Arg { return api.Arg{L: l} }

func with(l ...api.Value) api.Arg { return api.Arg{Area: true, Rows: len(l), Cols: 1, L: l} }

func literals(texts []string) []api.Value {
	var out []api.Value
	for _, s := range texts {
		out = append(out, value.Literal(s))
	}
	return out
}

func letters(n int) string { return strings.Repeat("x", n) }

func brief(x any) string {
	s := fmt.Sprintf("%+v", x)
	if len(s) > 400 {
		s = s[:400] + ".."
	}
	return s
}

// numbers are numbers at the edges, both signs.
func numbers() []int64 {
	l := []int64{0}
	for _, n := range []int64{1, 2, 4999, 5000, 5001, 9999, 10000, 10001, 14999, 15000, 15001, 19999, 20000, 25000, 25500, 29999, 30000, 35000, 40000, 50000, 123456, 130000, 140000, 150000, 160000, 1250000, 1e9, 5e17, 1e18, 5e18, 1 << 62, api.Most - 10000, api.Most - 5808, api.Most - 5807, api.Most - 807, api.Most - 8, api.Most - 7, api.Most - 1, api.Most} {
		l = append(l, n, -n)
	}
	return l
}

// odd are values that are not as Normal has them, some of them as errors.
func odd() []api.Value {
	return []api.Value{
		{N: 4, S: "5", E: 1}, {K: 5, N: 4, S: "5", E: 1}, {K: -1, N: 10000, S: "TRUE"}, {K: math.MaxInt, E: 3}, {K: math.MinInt, N: 1},
		{K: api.Bool, N: 2, S: "FALSE"}, {K: api.Bool, N: -1}, {K: api.Bool, N: least}, {K: api.Bool, S: "TRUE", E: 4},
		{K: api.Number, N: 20000, S: "8", E: 2}, {K: api.Number, N: least}, {K: api.Number, N: least, S: "1", E: 1},
		{K: api.Text, N: 9, S: "3", E: 4}, {K: api.Text, S: letters(301)}, {K: api.Text, S: strings.Repeat("1", 301), N: 1},
		{K: api.Error}, {K: api.Error, E: 6}, {K: api.Error, E: -1}, {K: api.Error, E: math.MinInt}, {K: api.Error, E: 3, N: 1, S: "1"},
	}
}

// every is values of all kinds: numbers at the edges, texts of all sorts, errors, and what is not as Normal has it.
func every() []api.Value {
	l := append(odd(), literals([]string{"", "TRUE", "FALSE", "#REF!", "#VALUE!", "#DIV/0!", "#NUM!", "#CYCLE!"})...)
	for _, s := range []string{"", "0", "1", "2.9", "-2.5", "-0.5", "007", "0.00005", "1 ", "a", "abc", "TRUE", "FALSE", "true", "#REF!", "é\x00\xff", "922337203685477.5808", "-" + strings.Repeat("9", 40), strings.Repeat("9", 41), letters(300)} {
		l = append(l, value.Text(s))
	}
	for _, n := range numbers() {
		l = append(l, value.Num(n))
	}
	return l
}

// some is fewer values, one or some of each sort.
func some() []api.Value {
	return append(literals([]string{"", "TRUE", "FALSE", "0", "1", "2", "3", "1.9", "-0.5", "-1", "'", "'2", "'a", "'abc", "'TRUE", "#REF!", "#VALUE!", "#DIV/0!", "#NUM!", "#CYCLE!"}),
		value.Num(api.Most), value.Num(-api.Most), api.Value{K: 9, N: 1}, api.Value{K: api.Bool, N: 7}, api.Value{K: api.Number, N: least}, api.Value{K: api.Text, S: letters(301)}, api.Value{K: api.Error, E: 9})
}

// shaped are areas of all shapes: fewer values than there is room for, more, none, and sizes that can't be.
func shaped() []api.Arg {
	var out []api.Arg
	list := literals([]string{"1", "'b", "#DIV/0!", "", "TRUE", "6", "7"})
	sizes := []int{math.MinInt, -1, 0, 1, 2, 3, 4, 1 << 31, 1 << 32, 1 << 62, math.MaxInt/2 + 2, math.MaxInt}
	for _, rows := range sizes {
		for _, cols := range sizes {
			for count := range len(list) + 1 {
				out = append(out, api.Arg{Area: true, Rows: rows, Cols: cols, L: list[:count]})
			}
		}
	}
	return out
}

// chance makes arguments by chance, the same in every run.
type chance struct {
	*rand.Rand
}

func byChance(seed uint64) chance { return chance{rand.New(rand.NewPCG(14, seed))} }

func (c chance) args(count int, from []api.Value) []api.Arg {
	var out []api.Arg
	for range count {
		a := api.Arg{Area: c.IntN(6) == 0, Rows: c.IntN(5) - 1, Cols: c.IntN(5) - 1}
		for range c.IntN(5) {
			a.L = append(a.L, from[c.IntN(len(from))])
		}
		out = append(out, a)
	}
	return out
}

// call makes the arguments of a function, mostly as many as it takes.
func (c chance) call(from []api.Value) (string, []api.Arg) {
	name := names()[c.IntN(len(names()))]
	count := takes()[name]
	return name, c.args(max(0, count[0]+c.IntN(min(count[1], 4)-count[0]+1)+c.IntN(20)/18-c.IntN(20)/18), from)
}

// number is a number of any size.
func (c chance) number() int64 {
	n := c.Int64N(api.Most) >> c.IntN(63)
	if c.IntN(2) == 0 {
		return -n
	}
	return n
}
