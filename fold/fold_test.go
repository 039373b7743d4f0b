package fold

import (
	"fmt"
	"math"
	"slices"
	"strings"
	"testing"

	"cadastre/api"
	"cadastre/value"
)

// hold holds all functions against what the chapter says of them.
func hold(t *testing.T, l []api.Arg) {
	t.Helper()
	for _, c := range calls() {
		if got, want := c.is(l), c.said(l); got != want {
			t.Fatalf("%s of %s: %s, not %s", c.name, brief(l), brief(got), brief(want))
		}
	}
}

func brief(x any) string {
	s := fmt.Sprintf("%+v", x)
	if len(s) > 400 {
		s = s[:400] + ".."
	}
	return s
}

// known holds all functions against texts of what they come to, | between: Sum, Count, Min, Max, Average, And, Or, Concat.
func known(t *testing.T, want string, l ...api.Arg) {
	t.Helper()
	answers := strings.Split(want, "|")
	for i, c := range calls() {
		if got := c.is(l); got != value.Literal(answers[i]) {
			t.Errorf("%s of %s: %s, not %s", c.name, brief(l), brief(got), answers[i])
		}
	}
}

// P13.1, P13.2: no arguments, no values, one value, several.
func TestArguments(t *testing.T) {
	const none = "0|0|0|0|#DIV/0!|#VALUE!|#VALUE!|'"
	known(t, none)
	known(t, none, []api.Arg{}...)
	known(t, none, area())
	known(t, none, area(), api.Arg{Area: true, Rows: 3, Cols: 2}, with([]api.Value{}...))
	const blank = "0|1|0|0|0|FALSE|FALSE|'"
	known(t, blank, plain())
	known(t, blank, api.Arg{})
	known(t, blank, alone([]api.Value{}...))
	known(t, blank, plain(""))
	known(t, blank, area(), plain(), area())
	known(t, "0|2|0|0|0|FALSE|FALSE|'", plain(), plain(""))
	known(t, "7|1|7|7|7|TRUE|TRUE|'7", plain("7"))
	known(t, "7|1|7|7|7|TRUE|TRUE|'7", area("7"))
	// Of what is no area the first value alone plays a part, whatever the others are.
	known(t, "7|1|7|7|7|TRUE|TRUE|'7", plain("7", "8", "a", "#REF!"))
	known(t, "0|1|0|0|0|FALSE|FALSE|'", plain("", "8"))
	known(t, "#REF!|0|#REF!|#REF!|#REF!|#REF!|#REF!|#REF!", plain("#REF!", "8"))
	known(t, "18|3|3|8|6|TRUE|TRUE|'783", area("7", "8"), plain("3", "5"))
	// What an area says of its rows and columns plays no part here.
	known(t, "6|3|1|3|2|TRUE|TRUE|'123", api.Arg{Area: true, Rows: -1, Cols: math.MinInt, L: literals([]string{"1", "2", "3"})})
	known(t, "6|3|1|3|2|TRUE|TRUE|'123", api.Arg{Area: true, Rows: 1, Cols: 2, L: literals([]string{"1", "2", "3"})})
	known(t, "1|1|1|1|1|TRUE|TRUE|'1", api.Arg{Rows: 3, Cols: 1, L: literals([]string{"1", "2", "3"})})
}

// P13.1, P13.2: the chapter's example.
func TestExample(t *testing.T) {
	known(t, "3|2|1|2|1.5|#VALUE!|#VALUE!|'12TRUE2", area("1", "'2", "TRUE"), plain("'2"))
	if got := And([]api.Arg{area("'a", "'TRUE", "'1")}); got != value.Err(api.EValue) {
		t.Error("And of an area of texts:", got)
	}
}

// P13.1, P13.2: each kind of value, in an area and outside one.
func TestKinds(t *testing.T) {
	for _, c := range []struct{ text, inside, outside string }{
		{"", "0|0|0|0|#DIV/0!|#VALUE!|#VALUE!|'", "0|1|0|0|0|FALSE|FALSE|'"},
		{"TRUE", "0|0|0|0|#DIV/0!|TRUE|TRUE|'TRUE", "1|1|1|1|1|TRUE|TRUE|'TRUE"},
		{"FALSE", "0|0|0|0|#DIV/0!|FALSE|FALSE|'FALSE", "0|1|0|0|0|FALSE|FALSE|'FALSE"},
		{"0", "0|1|0|0|0|FALSE|FALSE|'0", "0|1|0|0|0|FALSE|FALSE|'0"},
		{"-0.0001", "-0.0001|1|-0.0001|-0.0001|-0.0001|TRUE|TRUE|'-0.0001", "-0.0001|1|-0.0001|-0.0001|-0.0001|TRUE|TRUE|'-0.0001"},
		{"12.5", "12.5|1|12.5|12.5|12.5|TRUE|TRUE|'12.5", "12.5|1|12.5|12.5|12.5|TRUE|TRUE|'12.5"},
		{"'", "0|0|0|0|#DIV/0!|#VALUE!|#VALUE!|'", "#VALUE!|0|#VALUE!|#VALUE!|#VALUE!|#VALUE!|#VALUE!|'"},
		{"'a", "0|0|0|0|#DIV/0!|#VALUE!|#VALUE!|'a", "#VALUE!|0|#VALUE!|#VALUE!|#VALUE!|#VALUE!|#VALUE!|'a"},
		{"'02.50", "0|0|0|0|#DIV/0!|#VALUE!|#VALUE!|'02.50", "2.5|1|2.5|2.5|2.5|#VALUE!|#VALUE!|'02.50"},
		{"'TRUE", "0|0|0|0|#DIV/0!|#VALUE!|#VALUE!|'TRUE", "#VALUE!|0|#VALUE!|#VALUE!|#VALUE!|TRUE|TRUE|'TRUE"},
		{"'FALSE", "0|0|0|0|#DIV/0!|#VALUE!|#VALUE!|'FALSE", "#VALUE!|0|#VALUE!|#VALUE!|#VALUE!|FALSE|FALSE|'FALSE"},
		{"'#REF!", "0|0|0|0|#DIV/0!|#VALUE!|#VALUE!|'#REF!", "#VALUE!|0|#VALUE!|#VALUE!|#VALUE!|#VALUE!|#VALUE!|'#REF!"},
		{"'999999999999999", "0|0|0|0|#DIV/0!|#VALUE!|#VALUE!|'999999999999999", "#NUM!|0|#NUM!|#NUM!|#NUM!|#VALUE!|#VALUE!|'999999999999999"},
		{"#CYCLE!", "#CYCLE!|0|#CYCLE!|#CYCLE!|#CYCLE!|#CYCLE!|#CYCLE!|#CYCLE!", "#CYCLE!|0|#CYCLE!|#CYCLE!|#CYCLE!|#CYCLE!|#CYCLE!|#CYCLE!"},
	} {
		known(t, c.inside, area(c.text))
		known(t, c.outside, plain(c.text))
	}
}

// P13.1, P13.2: values that are not as Normal has them are as it has them.
func TestNotNormal(t *testing.T) {
	odd := func(v api.Value, inside, outside string) {
		t.Helper()
		known(t, inside, with(v))
		known(t, outside, alone(v))
	}
	for _, v := range []api.Value{{N: 5, S: "5", E: 2}, {K: 5, N: 5, S: "5", E: 2}, {K: -1, N: 1}, {K: math.MaxInt, S: "TRUE"}, {K: math.MinInt, E: 4}} {
		odd(v, "0|0|0|0|#DIV/0!|#VALUE!|#VALUE!|'", "0|1|0|0|0|FALSE|FALSE|'")
	}
	for _, n := range []int64{2, -1, least, api.Most, 10000} {
		odd(api.Value{K: api.Bool, N: n, S: "FALSE", E: 1}, "0|0|0|0|#DIV/0!|TRUE|TRUE|'TRUE", "1|1|1|1|1|TRUE|TRUE|'TRUE")
	}
	odd(api.Value{K: api.Bool, S: "TRUE", E: 1}, "0|0|0|0|#DIV/0!|FALSE|FALSE|'FALSE", "0|1|0|0|0|FALSE|FALSE|'FALSE")
	odd(api.Value{K: api.Number, N: 20000, S: "9", E: 1}, "2|1|2|2|2|TRUE|TRUE|'2", "2|1|2|2|2|TRUE|TRUE|'2")
	odd(api.Value{K: api.Text, N: 9, S: "3", E: 1}, "0|0|0|0|#DIV/0!|#VALUE!|#VALUE!|'3", "3|1|3|3|3|#VALUE!|#VALUE!|'3")
	all := func(name string) string {
		return strings.ReplaceAll("e|0|e|e|e|e|e|e", "e", name)
	}
	odd(api.Value{K: api.Number, N: least}, all("#NUM!"), all("#NUM!"))
	odd(api.Value{K: api.Number, N: least, S: "1", E: 1}, all("#NUM!"), all("#NUM!"))
	odd(api.Value{K: api.Text, S: letters(301)}, all("#VALUE!"), all("#VALUE!"))
	odd(api.Value{K: api.Text, S: strings.Repeat("0", 301)}, all("#VALUE!"), all("#VALUE!"))
	odd(api.Value{K: api.Error, E: 3, N: 1, S: "1"}, all("#DIV/0!"), all("#DIV/0!"))
	for _, e := range []int{0, 6, -1, math.MinInt, math.MaxInt} {
		odd(api.Value{K: api.Error, E: e}, all("#VALUE!"), all("#VALUE!"))
	}
}

// P13.1, P13.2: of several errors the first, wherever it comes from.
func TestFirstError(t *testing.T) {
	known(t, "#REF!|2|#REF!|#REF!|#REF!|#REF!|#REF!|#REF!", area("1", "#REF!", "#NUM!"), area("#DIV/0!", "2"))
	known(t, "#NUM!|2|#NUM!|#NUM!|#NUM!|#NUM!|#NUM!|#NUM!", area("1", "#NUM!", "#REF!"), area("#DIV/0!", "2"))
	known(t, "#DIV/0!|2|#DIV/0!|#DIV/0!|#DIV/0!|#DIV/0!|#DIV/0!|#DIV/0!", plain("1"), plain("#DIV/0!"), area("#REF!"), plain("2"))
	// A text that is no number, or no truth, is an error outside areas alone.
	known(t, "#VALUE!|1|#VALUE!|#VALUE!|#VALUE!|#VALUE!|#VALUE!|#REF!", plain("'a"), area("#REF!", "1"))
	known(t, "#REF!|1|#REF!|#REF!|#REF!|#REF!|#REF!|#REF!", area("'a"), area("#REF!", "1"), plain("'a"))
	known(t, "#REF!|1|#REF!|#REF!|#REF!|#VALUE!|#VALUE!|#REF!", plain("'1"), plain("#REF!"))
	known(t, "#VALUE!|0|#VALUE!|#VALUE!|#VALUE!|#REF!|#REF!|#REF!", plain("'TRUE"), plain("#REF!"))
	known(t, "#NUM!|0|#NUM!|#NUM!|#NUM!|#VALUE!|#VALUE!|#REF!", plain("'"+strings.Repeat("9", 40)), plain("#REF!"), plain("'a"))
	known(t, "#CYCLE!|0|#CYCLE!|#CYCLE!|#CYCLE!|#CYCLE!|#CYCLE!|#CYCLE!", area("#CYCLE!"), plain("'a"))
	// An error behind what would settle it otherwise, or would be no number.
	known(t, "#REF!|2|#REF!|#REF!|#REF!|#REF!|#REF!|#REF!", area("922337203685477.5807", "1", "#REF!"))
	known(t, "#REF!|1|#REF!|#REF!|#REF!|#REF!|#REF!|#REF!", area("FALSE", "TRUE", "0"), plain("#REF!"))
	known(t, "#NUM!|0|#NUM!|#NUM!|#NUM!|#NUM!|#NUM!|#NUM!", with(api.Value{K: api.Number, N: least}, value.Err(api.ERef)))
	known(t, "#VALUE!|0|#VALUE!|#VALUE!|#VALUE!|#VALUE!|#VALUE!|#VALUE!", with(api.Value{K: api.Text, S: letters(301)}, value.Err(api.ERef)))
}

// P13.1: Count passes errors over, and counts what is behind them.
func TestCount(t *testing.T) {
	for _, c := range []struct {
		l    []api.Arg
		want int64
	}{
		{[]api.Arg{area("#REF!", "1", "#NUM!", "2", "'3", "TRUE", "")}, 2},
		{[]api.Arg{plain("#REF!"), plain("'a"), plain("'3"), plain("TRUE"), plain()}, 3},
		{[]api.Arg{area("#REF!"), plain("#REF!")}, 0},
		{[]api.Arg{area("922337203685477.5807", "922337203685477.5807", "922337203685477.5807")}, 3},
		{[]api.Arg{with(slices.Repeat([]api.Value{value.Num(1)}, 100000)...)}, 100000},
		{slices.Repeat([]api.Arg{plain("'1")}, 30000), 30000},
	} {
		if got := Count(c.l); got != value.Num(c.want*10000) {
			t.Errorf("Count of %s: %v, not %d", brief(c.l), got, c.want)
		}
	}
}

// P13.1: sums without bounds on their way, and what is no number at the end.
func TestBounds(t *testing.T) {
	most, one, low := value.Num(api.Most), value.Num(1), value.Num(-api.Most)
	great := value.Err(api.ENum)
	for _, c := range []struct {
		l            []api.Value
		sum, average api.Value
	}{
		{[]api.Value{most}, most, most},
		{[]api.Value{low}, low, low},
		{[]api.Value{most, one}, great, value.Num(1 << 62)},
		{[]api.Value{low, value.Num(-1)}, great, value.Num(-1 << 62)},
		{[]api.Value{most, one, value.Num(-1)}, most, value.Num(api.Most / 3)},
		{[]api.Value{low, value.Num(-1), one}, low, value.Num(-api.Most / 3)},
		{[]api.Value{most, most, most, low, low}, most, value.Num(1844674407370955161)},
		{[]api.Value{low, low, low, most, most, most}, value.Num(0), value.Num(0)},
		{[]api.Value{most, most}, great, most},
		{[]api.Value{low, low}, great, low},
		{[]api.Value{value.Num(api.Most - 1), one}, most, value.Num(1 << 62)},
		{[]api.Value{value.Num(-api.Most + 1), value.Num(-1)}, low, value.Num(-1 << 62)},
		// The least int64 is a sum, but no number.
		{[]api.Value{low, value.Num(-1), one, value.Num(-1)}, great, value.Num(-1 << 61)},
		{[]api.Value{value.Num(-1 << 62), value.Num(-1 << 62)}, great, value.Num(-1 << 62)},
		{slices.Repeat([]api.Value{most}, 1000), great, most},
		{append(slices.Repeat([]api.Value{most}, 500), slices.Repeat([]api.Value{low}, 499)...), most, value.Num(9232604641496272)},
		{[]api.Value{one, one, value.Num(0)}, value.Num(2), one},
		{[]api.Value{one, value.Num(0)}, one, one},
		{[]api.Value{value.Num(-1), value.Num(0)}, value.Num(-1), value.Num(-1)},
		{[]api.Value{one, value.Num(0), value.Num(0)}, one, value.Num(0)},
	} {
		var others []api.Arg
		for _, v := range c.l {
			others = append(others, alone(v))
		}
		for _, l := range [][]api.Arg{{with(c.l...)}, others} {
			if got := Sum(l); got != c.sum {
				t.Errorf("Sum of %s: %v, not %v", brief(l), got, c.sum)
			}
			if got := Average(l); got != c.average {
				t.Errorf("Average of %s: %v, not %v", brief(l), got, c.average)
			}
			hold(t, l)
		}
	}
}

// P13.1: the least and the greatest, of one sign and of both, where 0 is none of them.
func TestMinMax(t *testing.T) {
	for _, c := range []struct {
		l           []api.Arg
		least, most string
	}{
		{[]api.Arg{area("3", "1", "2")}, "1", "3"},
		{[]api.Arg{area("-3", "-1", "-2")}, "-3", "-1"},
		{[]api.Arg{area("-3", "0", "2")}, "-3", "2"},
		{[]api.Arg{area("5"), area("7"), plain("6")}, "5", "7"},
		{[]api.Arg{area("", "-5", "'-9", "TRUE", "'9")}, "-5", "-5"},
		{[]api.Arg{area("-5"), plain("TRUE"), plain("'-9")}, "-9", "1"},
		{[]api.Arg{area("-5"), plain()}, "-5", "0"},
		{[]api.Arg{area("922337203685477.5807", "-922337203685477.5807", "0")}, "-922337203685477.5807", "922337203685477.5807"},
		{[]api.Arg{area("", "'a", "TRUE")}, "0", "0"},
		{nil, "0", "0"},
	} {
		if got := Min(c.l); got != value.Literal(c.least) {
			t.Errorf("Min of %s: %v, not %s", brief(c.l), got, c.least)
		}
		if got := Max(c.l); got != value.Literal(c.most) {
			t.Errorf("Max of %s: %v, not %s", brief(c.l), got, c.most)
		}
	}
}

// P13.2: truths, alone and among what is passed over.
func TestAndOr(t *testing.T) {
	for _, c := range []struct {
		l       []api.Arg
		and, or string
	}{
		{[]api.Arg{area("TRUE", "TRUE")}, "TRUE", "TRUE"},
		{[]api.Arg{area("FALSE", "TRUE")}, "FALSE", "TRUE"},
		{[]api.Arg{area("TRUE", "FALSE")}, "FALSE", "TRUE"},
		{[]api.Arg{area("FALSE", "FALSE")}, "FALSE", "FALSE"},
		{[]api.Arg{area("TRUE"), area("FALSE"), area("TRUE")}, "FALSE", "TRUE"},
		{[]api.Arg{area("FALSE"), area("TRUE"), area("FALSE")}, "FALSE", "TRUE"},
		{[]api.Arg{area("1", "-1", "0.0001", "", "'a", "'FALSE")}, "TRUE", "TRUE"},
		{[]api.Arg{area("0", "", "'a", "'TRUE")}, "FALSE", "FALSE"},
		{[]api.Arg{area("0", "", "1")}, "FALSE", "TRUE"},
		{[]api.Arg{area("", "'a", "'TRUE", "'1")}, "#VALUE!", "#VALUE!"},
		{[]api.Arg{area("'a"), plain("TRUE")}, "TRUE", "TRUE"},
		{[]api.Arg{area("TRUE"), plain()}, "FALSE", "TRUE"},
		{[]api.Arg{area(""), plain()}, "FALSE", "FALSE"},
		{[]api.Arg{plain("'TRUE"), plain("1")}, "TRUE", "TRUE"},
		{[]api.Arg{plain("'FALSE"), plain("0")}, "FALSE", "FALSE"},
		{[]api.Arg{plain("TRUE"), plain("'true")}, "#VALUE!", "#VALUE!"},
		{[]api.Arg{plain("FALSE"), plain("'0")}, "#VALUE!", "#VALUE!"},
		{[]api.Arg{area("FALSE", "TRUE", "#DIV/0!"), plain("'a")}, "#DIV/0!", "#DIV/0!"},
		{[]api.Arg{area("FALSE", "TRUE"), plain("'a"), plain("#DIV/0!")}, "#VALUE!", "#VALUE!"},
	} {
		if got := And(c.l); got != value.Literal(c.and) {
			t.Errorf("And of %s: %v, not %s", brief(c.l), got, c.and)
		}
		if got := Or(c.l); got != value.Literal(c.or) {
			t.Errorf("Or of %s: %v, not %s", brief(c.l), got, c.or)
		}
	}
}

// P13.2: texts that are just not too long, and just too long; errors behind these.
func TestConcat(t *testing.T) {
	long := value.Err(api.EValue)
	half, ref := value.Text(letters(150)), value.Err(api.ERef)
	for _, c := range []struct {
		l    []api.Arg
		want api.Value
	}{
		{nil, value.Text("")},
		{[]api.Arg{area("", "", "'")}, value.Text("")},
		{[]api.Arg{area("a", "-1.50", "TRUE", "", "'1.50"), plain("FALSE", "b"), plain(), plain("' ")}, value.Text("a-1.5TRUE1.50FALSE ")},
		{[]api.Arg{area("b", "a"), area("a", "b")}, value.Text("baab")},
		{[]api.Arg{area("\x00", "\xff", "é")}, value.Text("\x00\xffé")},
		{[]api.Arg{with(value.Text(letters(300)))}, value.Text(letters(300))},
		{[]api.Arg{with(half, half)}, value.Text(letters(300))},
		{[]api.Arg{alone(half), with(api.Value{}, half, value.Text(""))}, value.Text(letters(300))},
		{[]api.Arg{with(half, half, value.Text("y"))}, long},
		{[]api.Arg{with(half, value.Text("y"), half)}, long},
		{[]api.Arg{alone(value.Text(letters(300))), plain("0")}, long},
		{[]api.Arg{with(value.Text(letters(300))), plain("")}, value.Text(letters(300))},
		{[]api.Arg{with(half, half, half, half, half, value.Text(""))}, long},
		{[]api.Arg{with(slices.Repeat([]api.Value{value.Num(10000)}, 300)...)}, value.Text(strings.Repeat("1", 300))},
		{[]api.Arg{with(slices.Repeat([]api.Value{value.Num(10000)}, 301)...)}, long},
		{[]api.Arg{with(slices.Repeat([]api.Value{half}, 100000)...)}, long},
		{[]api.Arg{with(half, half, half, ref)}, ref},
		{[]api.Arg{with(half, half, half), plain("#REF!"), plain("#NUM!")}, ref},
		{[]api.Arg{with(half, half, half, api.Value{K: api.Number, N: least}, ref)}, value.Err(api.ENum)},
		{[]api.Arg{with(api.Value{K: api.Text, S: letters(301)}, ref)}, long},
		{[]api.Arg{with(ref, api.Value{K: api.Text, S: letters(301)})}, ref},
	} {
		if got := Concat(c.l); got != c.want {
			t.Errorf("Concat of %s: %s, not %s", brief(c.l), brief(got), brief(c.want))
		}
	}
}

// P13.1, P13.2: all values, alone and two by two, in areas and outside them.
func TestPairs(t *testing.T) {
	all := every()
	for _, a := range all {
		hold(t, []api.Arg{with(a)})
		hold(t, []api.Arg{alone(a)})
		for _, b := range all {
			hold(t, []api.Arg{with(a, b)})
			hold(t, []api.Arg{alone(a, b)})
			hold(t, []api.Arg{with(a), with(b)})
			hold(t, []api.Arg{with(a), alone(b)})
			hold(t, []api.Arg{alone(a), with(b)})
			hold(t, []api.Arg{alone(a), alone(b)})
		}
	}
}

// P13.1, P13.2: arguments made by chance, of all values and of those without errors.
func TestByChance(t *testing.T) {
	c := byChance(1)
	for range 20000 {
		hold(t, c.args(every()))
		hold(t, c.args(sound()))
	}
}
