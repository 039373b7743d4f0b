package fold

import (
	"math"
	"math/big"
	"math/rand/v2"
	"slices"
	"strings"

	"cadastre/api"
	"cadastre/value"
)

// What the chapter's words come to, said apart from the package: values laid out in one list ahead of all else, numbers as whole numbers without bounds.

const least = math.MinInt64

func letters(n int) string { return strings.Repeat("x", n) }

// item is a value, as Normal has it, and whether it is an area's.
type item struct {
	v    api.Value
	area bool
}

// laid is all values, in their order.
func laid(l []api.Arg) []item {
	var out []item
	for _, a := range l {
		list := slices.Clone(a.L)
		if !a.Area {
			list = append(list, api.Value{})[:1]
		}
		for _, v := range list {
			out = append(out, item{value.Normal(v), a.Area})
		}
	}
	return out
}

// numbersOf is what the numbers are, errors among them.
func numbersOf(l []api.Arg) []api.Value {
	var out []api.Value
	for _, x := range laid(l) {
		switch {
		case !x.area:
			out = append(out, value.ToNum(x.v))
		case x.v.K == api.Number, x.v.K == api.Error:
			out = append(out, x.v)
		}
	}
	return out
}

// truthsOf is what the truths are, errors among them.
func truthsOf(l []api.Arg) []api.Value {
	var out []api.Value
	for _, x := range laid(l) {
		switch {
		case !x.area:
			out = append(out, value.ToBool(x.v))
		case x.v.K == api.Number:
			out = append(out, value.Bool(x.v.N != 0))
		case x.v.K == api.Bool, x.v.K == api.Error:
			out = append(out, x.v)
		}
	}
	return out
}

// firstOf is the first error of a list, or -1.
func firstOf(l []api.Value) int {
	return slices.IndexFunc(l, func(v api.Value) bool { return v.K == api.Error })
}

func summed(l []api.Arg) api.Value {
	list := numbersOf(l)
	if at := firstOf(list); at >= 0 {
		return list[at]
	}
	return parts(added(list))
}

func added(list []api.Value) *big.Int {
	sum := new(big.Int)
	for _, v := range list {
		sum.Add(sum, big.NewInt(v.N))
	}
	return sum
}

// parts is a number of so many ten thousandths.
func parts(n *big.Int) api.Value {
	if n.CmpAbs(big.NewInt(api.Most)) > 0 {
		return value.Err(api.ENum)
	}
	return value.Num(n.Int64())
}

func counted(l []api.Arg) api.Value {
	count := int64(0)
	for _, v := range numbersOf(l) {
		if v.K == api.Number {
			count += 10000
		}
	}
	return value.Num(count)
}

// sorted is the number at an end of them all, from the least to the greatest.
func sorted(l []api.Arg, greatest bool) api.Value {
	list := numbersOf(l)
	if at := firstOf(list); at >= 0 {
		return list[at]
	}
	if len(list) == 0 {
		return value.Num(0)
	}
	slices.SortFunc(list, func(a, b api.Value) int { return big.NewInt(a.N).Cmp(big.NewInt(b.N)) })
	if greatest {
		return list[len(list)-1]
	}
	return list[0]
}

func averaged(l []api.Arg) api.Value {
	list := numbersOf(l)
	if at := firstOf(list); at >= 0 {
		return list[at]
	}
	if len(list) == 0 {
		return value.Err(api.EDiv)
	}
	return parts(nearest(added(list), len(list)))
}

// nearest is the whole number nearest to sum by n, of two the one farther from 0.
func nearest(sum *big.Int, n int) *big.Int {
	exact := new(big.Rat).SetFrac(sum, big.NewInt(int64(n)))
	exact.Abs(exact).Add(exact, big.NewRat(1, 2))
	whole := new(big.Int).Quo(exact.Num(), exact.Denom())
	if sum.Sign() < 0 {
		whole.Neg(whole)
	}
	return whole
}

// polled is whether all are, or any is, TRUE: all are, if none is FALSE.
func polled(l []api.Arg, all bool) api.Value {
	list := truthsOf(l)
	if at := firstOf(list); at >= 0 {
		return list[at]
	}
	if len(list) == 0 {
		return value.Err(api.EValue)
	}
	if all {
		return value.Bool(!slices.Contains(list, value.Bool(false)))
	}
	return value.Bool(slices.Contains(list, value.Bool(true)))
}

func joined(l []api.Arg) api.Value {
	whole := ""
	for _, x := range laid(l) {
		v := value.ToText(x.v)
		if v.K == api.Error {
			return v
		}
		whole += v.S
	}
	if len(whole) > 300 {
		return value.Err(api.EValue)
	}
	return api.Value{K: api.Text, S: whole}
}

// call is a function of the package, and what the chapter says of it.
type call struct {
	name string
	is   func(l []api.Arg) api.Value
	said func(l []api.Arg) api.Value
}

// calls are all functions of many values.
func calls() []call {
	return []call{
		{"Sum", Sum, summed},
		{"Count", Count, counted},
		{"Min", Min, func(l []api.Arg) api.Value { return sorted(l, false) }},
		{"Max", Max, func(l []api.Arg) api.Value { return sorted(l, true) }},
		{"Average", Average, averaged},
		{"And", And, func(l []api.Arg) api.Value { return polled(l, true) }},
		{"Or", Or, func(l []api.Arg) api.Value { return polled(l, false) }},
		{"Concat", Concat, joined},
	}
}

// exact is a sum as a whole number.
func exact(s api.Acc) *big.Int {
	n := new(big.Int).Lsh(big.NewInt(s.Hi), 64)
	return n.Add(n, new(big.Int).SetUint64(s.Lo))
}

// sumOf is a whole number as a sum.
func sumOf(n *big.Int) api.Acc {
	// Of big's divisions DivMod leaves a rest that is not below 0.
	hi, lo := new(big.Int).DivMod(n, new(big.Int).Lsh(big.NewInt(1), 64), new(big.Int))
	return api.Acc{Hi: hi.Int64(), Lo: lo.Uint64()}
}

// area is an area of cells' texts, plain an argument that is none.
func area(texts ...string) api.Arg { return api.Arg{Area: true, L: literals(texts)} }

func plain(texts ...string) api.Arg { return api.Arg{L: literals(texts)} }

// with is an area of values as they stand, alone an argument that is none.
func with(l ...api.Value) api.Arg { return api.Arg{Area: true, L: l} }

func alone(l ...api.Value) api.Arg { return api.Arg{L: l} }

func literals(texts []string) []api.Value {
	var out []api.Value
	for _, s := range texts {
		out = append(out, value.Literal(s))
	}
	return out
}

// sound are values without errors, as Normal has them and not; of texts numerals, truths, errors' names and others.
func sound() []api.Value {
	l := literals([]string{"", "TRUE", "FALSE", "0", "1", "-1", "0.0001", "-0.0001", "2.5", "-3.3333", "922337203685477.5807", "-922337203685477.5807", "922337203685477.5806", "461168601842738.7904"})
	for _, s := range []string{"", "0", "1", "-2.5", "007", "0.00005", "1 ", "a", "TRUE", "FALSE", "true", "#REF!", letters(100), letters(299), letters(300)} {
		l = append(l, value.Text(s))
	}
	return append(l,
		api.Value{N: 4, S: "5", E: 1}, api.Value{K: 5, N: 4, S: "5", E: 1}, api.Value{K: -1, N: 4, S: "TRUE"}, api.Value{K: math.MaxInt, E: 3}, api.Value{K: math.MinInt, N: 1},
		api.Value{K: api.Bool, N: 2, S: "FALSE"}, api.Value{K: api.Bool, N: -1}, api.Value{K: api.Bool, N: least}, api.Value{K: api.Bool, S: "TRUE", E: 4},
		api.Value{K: api.Number, N: 7, S: "8", E: 2}, api.Value{K: api.Text, N: 9, S: "3", E: 4},
	)
}

// wrong are errors, and values that are as one.
func wrong() []api.Value {
	l := []api.Value{
		{K: api.Number, N: least}, {K: api.Number, N: least, S: "1", E: 1}, {K: api.Text, S: letters(301)}, {K: api.Text, S: strings.Repeat("1", 301), N: 1},
		{K: api.Error}, {K: api.Error, E: 6}, {K: api.Error, E: -1}, {K: api.Error, E: math.MinInt}, {K: api.Error, E: 3, N: 1, S: "1"},
	}
	for e := 1; e <= 5; e++ {
		l = append(l, value.Err(e))
	}
	return l
}

// every is all values, and texts that are numbers too great.
func every() []api.Value {
	return slices.Concat(sound(), wrong(), []api.Value{value.Text("922337203685477.5808"), value.Text("-" + strings.Repeat("9", 40)), value.Text(strings.Repeat("9", 41))})
}

// chance makes lists of arguments of some values by chance, the same in every run.
type chance struct {
	*rand.Rand
}

func byChance(seed uint64) chance { return chance{rand.New(rand.NewPCG(13, seed))} }

func (c chance) some(from []api.Value, most int) []api.Value {
	var out []api.Value
	for range c.IntN(most + 1) {
		out = append(out, from[c.IntN(len(from))])
	}
	return out
}

func (c chance) args(from []api.Value) []api.Arg {
	var out []api.Arg
	for range c.IntN(5) {
		out = append(out, api.Arg{Area: c.IntN(3) > 0, Rows: c.IntN(5) - 1, Cols: c.IntN(5) - 1, L: c.some(from, 4)})
	}
	return out
}

// cut lays values out as areas, in their order.
func (c chance) cut(l []api.Value) []api.Arg {
	var out []api.Arg
	for len(l) > 0 {
		n := c.IntN(len(l) + 1)
		out = append(out, api.Arg{Area: true, L: slices.Clone(l[:n])})
		l = l[n:]
	}
	return out
}
