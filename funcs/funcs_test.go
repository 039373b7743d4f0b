package funcs

import (
	"math"
	"slices"
	"strings"
	"testing"

	"cadastre/api"
	"cadastre/value"
)

// hold holds a call against what the chapter says of it.
func hold(t *testing.T, name string, l ...api.Arg) {
	t.Helper()
	if got, want := Call(name, l), said(name, l); got != want {
		t.Fatalf("%q of %s: %s, not %s", name, brief(l), brief(got), brief(want))
	}
}

// known holds a call against a text of what it comes to, as a cell has it, and against what the chapter says of it.
func known(t *testing.T, want, name string, l ...api.Arg) {
	t.Helper()
	if got := Call(name, l); got != value.Literal(want) {
		t.Errorf("%q of %s: %s, not %s", name, brief(l), brief(got), want)
	}
	hold(t, name, l...)
}

// formulas holds calls of plain values, each as texts: what it comes to, the name, the arguments.
func formulas(t *testing.T, list [][]string) {
	t.Helper()
	for _, texts := range list {
		var l []api.Arg
		for _, s := range texts[2:] {
			l = append(l, plain(s))
		}
		known(t, texts[0], texts[1], l...)
	}
}

// P14.1: the chapter's examples.
func TestExamples(t *testing.T) {
	formulas(t, [][]string{
		{"#VALUE!", "IF", "'", "1", "2"},
		{"'ab", "LEFT", "'abc", "2.9"},
		{"2", "MOD", "-1", "3"},
	})
	known(t, "3", "INDEX", grid(2, 2, "1", "2", "3", "4"), plain("2"), plain("1"))
}

// P14.1: names that are none, with any number of arguments.
func TestNoNames(t *testing.T) {
	for _, name := range []string{"", " ", "sum", "Sum", "if", "If", "iferror", "FOO", " SUM", "SUM ", "SUM(", "SU", "SUMM", "IFS", "IFERR", "I", "TRUE", "FALSE", "A1", "SUM\x00", "#REF!", "ЅUM", "RIGHT", "MID", "INT", "\xff", strings.Repeat("SUM", 1000)} {
		for count := range 25 {
			known(t, "#VALUE!", name, slices.Repeat([]api.Arg{plain("1")}, count)...)
		}
		known(t, "#VALUE!", name, plain("#REF!"))
	}
}

// P14.1: no arguments, one too few, one too many, and many; errors in them play no part then.
func TestHowMany(t *testing.T) {
	for name, count := range takes() {
		known(t, "#VALUE!", name)
		known(t, "#VALUE!", name, []api.Arg{}...)
		for _, a := range []api.Arg{plain("1"), plain("#REF!"), area("1"), plain()} {
			for n := range 50 {
				l := slices.Repeat([]api.Arg{a}, n)
				if n < count[0] || n > count[1] {
					known(t, "#VALUE!", name, l...)
				}
				hold(t, name, l...)
			}
		}
		// As many as it takes do not fail for that.
		for n := count[0]; n <= count[1]; n++ {
			if got := Call(name, slices.Repeat([]api.Arg{plain("1")}, n)); got.K == api.Error {
				t.Errorf("%s of %d arguments: %v", name, n, got)
			}
		}
	}
}

// P14.1: the functions of many values, each apart from the others.
func TestOfMany(t *testing.T) {
	l := []api.Arg{grid(2, 2, "1", "2", "'3", "0.5"), plain("'7"), plain("-4")}
	for name, want := range map[string]string{"SUM": "6.5", "COUNT": "5", "MIN": "-4", "MAX": "7", "AVERAGE": "1.3", "AND": "#VALUE!", "OR": "#VALUE!", "CONCAT": "'1230.57-4"} {
		known(t, want, name, l...)
	}
	truths := []api.Arg{area("TRUE", "", "0"), plain("'TRUE")}
	known(t, "FALSE", "AND", truths...)
	known(t, "TRUE", "OR", truths...)
	for name, want := range map[string]string{"SUM": "#NUM!", "COUNT": "1", "MIN": "#NUM!", "MAX": "#NUM!", "AVERAGE": "#NUM!", "AND": "#NUM!", "OR": "#NUM!", "CONCAT": "#NUM!"} {
		known(t, want, name, with(api.Value{K: api.Number, N: least}), plain("1"), plain("#REF!"))
	}
	twenty := slices.Repeat([]api.Arg{plain("1")}, 20)
	known(t, "20", "SUM", twenty...)
	known(t, "#VALUE!", "SUM", append(twenty, plain("1"))...)
}

// P14.1: IF and NOT of what is a truth, and of what is none.
func TestTruths(t *testing.T) {
	formulas(t, [][]string{
		{"1", "IF", "TRUE", "1", "2"}, {"2", "IF", "FALSE", "1", "2"}, {"1", "IF", "TRUE", "1"}, {"FALSE", "IF", "FALSE", "1"},
		{"2", "IF", "", "1", "2"}, {"2", "IF", "0", "1", "2"}, {"1", "IF", "-0.0001", "1", "2"}, {"1", "IF", "7", "1", "2"},
		{"1", "IF", "'TRUE", "1", "2"}, {"2", "IF", "'FALSE", "1", "2"}, {"#VALUE!", "IF", "'true", "1", "2"}, {"#VALUE!", "IF", "'1", "1", "2"}, {"#VALUE!", "IF", "'a", "1", "2"},
		{"FALSE", "IF", "", "1"}, {"FALSE", "IF", "0", "#REF!"},
		// What is chosen is answered as it stands.
		{"", "IF", "TRUE", "", "2"}, {"", "IF", "FALSE", "1", ""}, {"'1", "IF", "TRUE", "'1", "2"}, {"TRUE", "IF", "FALSE", "1", "TRUE"}, {"'abc", "IF", "FALSE", "1", "'abc"},
		// What is not chosen may be an error.
		{"1", "IF", "TRUE", "1", "#REF!"}, {"2", "IF", "FALSE", "#REF!", "2"}, {"#REF!", "IF", "TRUE", "#REF!", "#NUM!"}, {"#NUM!", "IF", "FALSE", "#REF!", "#NUM!"},
		{"#DIV/0!", "IF", "#DIV/0!", "#REF!", "#NUM!"}, {"#DIV/0!", "IF", "#DIV/0!", "1", "2"}, {"#DIV/0!", "IF", "#DIV/0!", "1"}, {"#VALUE!", "IF", "'a", "#REF!", "#NUM!"},
		{"FALSE", "NOT", "TRUE"}, {"TRUE", "NOT", "FALSE"}, {"TRUE", "NOT", ""}, {"TRUE", "NOT", "0"}, {"FALSE", "NOT", "0.0001"}, {"FALSE", "NOT", "-2"},
		{"FALSE", "NOT", "'TRUE"}, {"TRUE", "NOT", "'FALSE"}, {"#VALUE!", "NOT", "'"}, {"#VALUE!", "NOT", "'0"}, {"#VALUE!", "NOT", "'False"}, {"#CYCLE!", "NOT", "#CYCLE!"},
	})
}

// P14.1: ABS, MOD, SQRT.
func TestNumbers(t *testing.T) {
	formulas(t, [][]string{
		{"2", "ABS", "-2"}, {"2", "ABS", "2"}, {"0", "ABS", "0"}, {"0", "ABS", ""}, {"1", "ABS", "TRUE"}, {"0", "ABS", "FALSE"}, {"1.5", "ABS", "'-1.5"}, {"#VALUE!", "ABS", "'a"}, {"#VALUE!", "ABS", "'"}, {"#VALUE!", "ABS", "'TRUE"},
		{"#NUM!", "ABS", "'922337203685477.5808"}, {"922337203685477.5807", "ABS", "-922337203685477.5807"}, {"922337203685477.5807", "ABS", "922337203685477.5807"}, {"#REF!", "ABS", "#REF!"}, {"0.0001", "ABS", "-0.0001"},
		{"1", "MOD", "7", "3"}, {"2", "MOD", "-7", "3"}, {"-2", "MOD", "7", "-3"}, {"-1", "MOD", "-7", "-3"}, {"0", "MOD", "6", "3"}, {"0", "MOD", "-6", "3"}, {"0.5", "MOD", "2.5", "1"}, {"0.0001", "MOD", "0.0001", "922337203685477.5807"}, {"922337203685477.5806", "MOD", "-0.0001", "922337203685477.5807"},
		{"#DIV/0!", "MOD", "1", "0"}, {"#DIV/0!", "MOD", "0", "0"}, {"#DIV/0!", "MOD", "-1", ""}, {"#DIV/0!", "MOD", "1", "FALSE"}, {"#DIV/0!", "MOD", "1", "'0.00004"}, {"0", "MOD", "", "TRUE"}, {"1", "MOD", "'4", "'3"},
		{"#REF!", "MOD", "#REF!", "0"}, {"#VALUE!", "MOD", "'a", "0"}, {"#REF!", "MOD", "0", "#REF!"}, {"#REF!", "MOD", "#REF!", "#NUM!"}, {"#NUM!", "MOD", "#NUM!", "#REF!"}, {"#VALUE!", "MOD", "'a", "#REF!"}, {"#REF!", "MOD", "#REF!", "'a"}, {"#NUM!", "MOD", "'922337203685477.5808", "'a"},
		{"3", "SQRT", "9"}, {"0", "SQRT", "0"}, {"0.01", "SQRT", "0.0001"}, {"1.4142", "SQRT", "2"}, {"#NUM!", "SQRT", "-1"}, {"#NUM!", "SQRT", "-0.0001"}, {"#NUM!", "SQRT", "-922337203685477.5807"}, {"30370004.9997", "SQRT", "922337203685477.5807"},
		{"0", "SQRT", ""}, {"1", "SQRT", "TRUE"}, {"1.5", "SQRT", "'2.25"}, {"#VALUE!", "SQRT", "'-"}, {"#DIV/0!", "SQRT", "#DIV/0!"},
	})
}

// P14.1: ROUND and FLOOR.
func TestRoundFloor(t *testing.T) {
	const most = "922337203685477.5807"
	formulas(t, [][]string{
		{"2.6", "ROUND", "2.55", "1"}, {"-2.6", "ROUND", "-2.55", "1"}, {"3", "ROUND", "2.5", "0"}, {"-3", "ROUND", "-2.5", "0"}, {"2", "ROUND", "2.4999", "0"}, {"-2", "ROUND", "-2.4999", "0"}, {"1", "ROUND", "0.5", ""}, {"0", "ROUND", "0.4999", "FALSE"}, {"1.3", "ROUND", "1.25", "TRUE"},
		{"1.2346", "ROUND", "1.2346", "4"}, {"1.2346", "ROUND", "1.2346", "5"}, {"1.235", "ROUND", "1.2346", "3"}, {"1.2346", "ROUND", "1.2346", most},
		// Digits that are not whole are the whole number next below.
		{"1.235", "ROUND", "1.2346", "3.9999"}, {"1.2346", "ROUND", "1.2346", "4.0001"}, {"1", "ROUND", "1.2346", "0.9999"}, {"10", "ROUND", "12.3456", "-0.0001"}, {"10", "ROUND", "12.3456", "-1"}, {"0", "ROUND", "12.3456", "-1.0001"}, {"100", "ROUND", "149.9999", "-2"}, {"200", "ROUND", "150", "-2"}, {"-200", "ROUND", "-150", "-2"},
		{"900000000000000", "ROUND", most, "-14"}, {"0", "ROUND", most, "-14.0001"}, {"0", "ROUND", most, "-15"}, {"0", "ROUND", most, "-100"}, {"0", "ROUND", most, "-" + most}, {"0", "ROUND", "-" + most, "-" + most}, {"0", "ROUND", "1", "-922337203685477"},
		{"#NUM!", "ROUND", most, "0"}, {"#NUM!", "ROUND", "-" + most, "0"}, {"#NUM!", "ROUND", most, "3"}, {most, "ROUND", most, "4"}, {"922337203685477.58", "ROUND", most, "2"}, {"922337203685477", "ROUND", "922337203685477.4999", "0"}, {"#NUM!", "ROUND", "922337203685477.5", "0"},
		{"0", "ROUND", "", "1"}, {"1", "ROUND", "TRUE", "'0"}, {"1.3", "ROUND", "'1.25", "'1.5"}, {"#VALUE!", "ROUND", "'a", "1"}, {"#VALUE!", "ROUND", "1", "'a"},
		{"#REF!", "ROUND", "#REF!", "#NUM!"}, {"#NUM!", "ROUND", "#NUM!", "#REF!"}, {"#VALUE!", "ROUND", "'a", "#REF!"}, {"#REF!", "ROUND", "#REF!", "'a"}, {"#REF!", "ROUND", most, "#REF!"},
		{"0", "FLOOR", "0.5"}, {"-1", "FLOOR", "-0.5"}, {"-1", "FLOOR", "-0.0001"}, {"0", "FLOOR", "0"}, {"2", "FLOOR", "2"}, {"-2", "FLOOR", "-2"}, {"2", "FLOOR", "2.9999"}, {"-3", "FLOOR", "-2.0001"},
		{"922337203685477", "FLOOR", most}, {"#NUM!", "FLOOR", "-" + most}, {"#NUM!", "FLOOR", "-922337203685477.0001"}, {"-922337203685477", "FLOOR", "-922337203685477"}, {"0", "FLOOR", ""}, {"1", "FLOOR", "TRUE"}, {"1", "FLOOR", "'1.75"}, {"#VALUE!", "FLOOR", "'1.75a"}, {"#CYCLE!", "FLOOR", "#CYCLE!"},
	})
}

// P14.1: LEN and LEFT, of bytes.
func TestTexts(t *testing.T) {
	formulas(t, [][]string{
		{"3", "LEN", "'abc"}, {"0", "LEN", "'"}, {"0", "LEN", ""}, {"4", "LEN", "TRUE"}, {"5", "LEN", "FALSE"}, {"4", "LEN", "-1.50"}, {"5", "LEN", "'-1.50"}, {"5", "LEN", "'é\x00\xff "}, {"300", "LEN", "'" + letters(300)}, {"#REF!", "LEN", "#REF!"}, {"5", "LEN", "'#REF!"},
		{"'a", "LEFT", "'abc"}, {"'", "LEFT", "'"}, {"'", "LEFT", ""}, {"'T", "LEFT", "TRUE"}, {"'-", "LEFT", "-1.5"}, {"'\xc3", "LEFT", "'é"}, {"'é\x00", "LEFT", "'é\x00\xff", "3"}, {"'\xff\xfe", "LEFT", "'\xff\xfe\xfd", "2"},
		{"'", "LEFT", "'abc", "0"}, {"'", "LEFT", "'abc", "0.9999"}, {"'a", "LEFT", "'abc", "1"}, {"'a", "LEFT", "'abc", "1.9999"}, {"'ab", "LEFT", "'abc", "2.9"}, {"'abc", "LEFT", "'abc", "3"}, {"'abc", "LEFT", "'abc", "4"}, {"'abc", "LEFT", "'abc", "922337203685477.5807"}, {"'", "LEFT", "'", "5"},
		{"#VALUE!", "LEFT", "'abc", "-1"}, {"#VALUE!", "LEFT", "'abc", "-0.5"}, {"#VALUE!", "LEFT", "'abc", "-0.0001"}, {"#VALUE!", "LEFT", "'", "-0.0001"}, {"#VALUE!", "LEFT", "'abc", "-922337203685477.5807"},
		{"'", "LEFT", "'abc", ""}, {"'a", "LEFT", "'abc", "TRUE"}, {"'ab", "LEFT", "'abc", "'2"}, {"#VALUE!", "LEFT", "'abc", "'a"}, {"'" + letters(299), "LEFT", "'" + letters(300), "299"}, {"'" + letters(300), "LEFT", "'" + letters(300), "300"}, {"'12", "LEFT", "12.5", "2"},
		{"#REF!", "LEFT", "#REF!"}, {"#REF!", "LEFT", "#REF!", "-1"}, {"#REF!", "LEFT", "#REF!", "#NUM!"}, {"#NUM!", "LEFT", "'abc", "#NUM!"}, {"#NUM!", "LEFT", "#NUM!", "'a"}, {"#NUM!", "LEFT", "'abc", "'922337203685477.5808"},
	})
}

// P14.1: INDEX of areas at their edges, and of values.
func TestIndex(t *testing.T) {
	a := grid(2, 3, "1", "2", "3", "'d", "", "#DIV/0!")
	for _, c := range [][]string{
		{"1", "1", "1"}, {"2", "1", "2"}, {"3", "1", "3"}, {"'d", "2", "1"}, {"", "2", "2"}, {"#DIV/0!", "2", "3"}, {"1", "1"}, {"'d", "2"}, {"#REF!", "3"},
		{"#REF!", "1", "4"}, {"#REF!", "2", "4"}, {"#REF!", "3", "1"}, {"#REF!", "3", "3"}, {"#REF!", "0", "1"}, {"#REF!", "1", "0"}, {"#REF!", "0", "4"}, {"#REF!", "2", "0"}, {"#REF!", "3", "-2"}, {"#REF!", "0"},
		{"#REF!", "0.9999", "1"}, {"#REF!", "1", "0.0001"}, {"1", "1.9999", "1.9999"}, {"#DIV/0!", "2.9999", "3.9999"}, {"#REF!", "-0.0001", "1"}, {"#REF!", "1", "-1"}, {"#REF!", "-1", "-1"}, {"#REF!", "-5", "5"},
		{"#REF!", "922337203685477.5807", "1"}, {"#REF!", "1", "922337203685477.5807"}, {"#REF!", "-922337203685477.5807", "1"}, {"#REF!", "1", "-922337203685477.5807"}, {"#REF!", "922337203685477", "922337203685477"},
		{"2", "TRUE", "'2"}, {"#REF!", "", "1"}, {"#REF!", "1", ""}, {"#REF!", "FALSE"}, {"#VALUE!", "'a", "1"}, {"#VALUE!", "1", "'a"},
		{"#NUM!", "#NUM!", "#CYCLE!"}, {"#CYCLE!", "9", "#CYCLE!"}, {"#NUM!", "#NUM!", "9"}, {"#VALUE!", "'a", "#NUM!"}, {"#NUM!", "#NUM!", "'a"}, {"#NUM!", "#NUM!"},
	} {
		l := []api.Arg{a}
		for _, s := range c[1:] {
			l = append(l, plain(s))
		}
		known(t, c[0], "INDEX", l...)
	}
	// A value is an area of one, an error too; its own place comes ahead of it.
	formulas(t, [][]string{
		{"'abc", "INDEX", "'abc", "1"}, {"'abc", "INDEX", "'abc", "1", "1"}, {"'abc", "INDEX", "'abc", "1.5", "1.5"}, {"#REF!", "INDEX", "'abc", "2"}, {"#REF!", "INDEX", "'abc", "1", "2"}, {"#REF!", "INDEX", "'abc", "0"}, {"#REF!", "INDEX", "'abc", "1", "0"},
		{"", "INDEX", "", "1"}, {"7", "INDEX", "7", "TRUE"}, {"#NUM!", "INDEX", "#NUM!", "1"}, {"#REF!", "INDEX", "#NUM!", "2"}, {"#VALUE!", "INDEX", "#NUM!", "'a"}, {"#DIV/0!", "INDEX", "#NUM!", "1", "#DIV/0!"},
	})
	known(t, "", "INDEX", plain(), plain("1"))
	known(t, "5", "INDEX", plain("5", "6", "7"), plain("1"), plain("1"))
	known(t, "#REF!", "INDEX", plain("5", "6", "7"), plain("2"))
	known(t, "5", "INDEX", api.Arg{Rows: 2, Cols: 2, L: literals([]string{"5", "6", "7", "8"})}, plain("1"))
	known(t, "#REF!", "INDEX", api.Arg{Rows: 2, Cols: 2, L: literals([]string{"5", "6", "7", "8"})}, plain("2"))
	known(t, "#REF!", "INDEX", api.Arg{Rows: 2, Cols: 2, L: literals([]string{"5", "6", "7", "8"})}, plain("1"), plain("2"))
	known(t, "5", "INDEX", api.Arg{Rows: -1, L: literals([]string{"5"})}, plain("1"))
	known(t, "#REF!", "INDEX", area(), plain("1"))
}

// P14.1: INDEX of areas with fewer values than there is room for, with more, and of sizes that can't be.
func TestIndexShapes(t *testing.T) {
	known(t, "3", "INDEX", grid(2, 2, "1", "2", "3"), plain("2"), plain("1"))
	known(t, "#REF!", "INDEX", grid(2, 2, "1", "2", "3"), plain("2"), plain("2"))
	known(t, "#REF!", "INDEX", grid(2, 2, "1"), plain("1"), plain("2"))
	known(t, "#REF!", "INDEX", grid(2, 2), plain("1"), plain("1"))
	known(t, "#REF!", "INDEX", grid(1, 1, "1", "2"), plain("2"))
	known(t, "#REF!", "INDEX", grid(1, 1, "1", "2"), plain("1"), plain("2"))
	for _, none := range []int{0, -1, math.MinInt} {
		known(t, "#REF!", "INDEX", grid(none, 2, "1", "2"), plain("1"))
		known(t, "#REF!", "INDEX", grid(2, none, "1", "2"), plain("1"))
		known(t, "#REF!", "INDEX", grid(none, none, "1", "2"), plain("1"))
	}
	const great = math.MaxInt
	known(t, "3", "INDEX", grid(great, great, "1", "2", "3"), plain("1"), plain("3"))
	known(t, "#REF!", "INDEX", grid(great, great, "1", "2", "3"), plain("1"), plain("4"))
	known(t, "#REF!", "INDEX", grid(great, great, "1", "2", "3"), plain("2"), plain("1"))
	// Where places would wrap round to one that there is.
	known(t, "#REF!", "INDEX", grid(great, great, "1", "2", "3"), plain("3"), plain("3"))
	known(t, "#REF!", "INDEX", grid(8, 1<<62, "1", "2", "3"), plain("5"), plain("1"))
	known(t, "#REF!", "INDEX", grid(8, 1<<62, "1", "2", "3"), plain("5"), plain("3"))
	known(t, "#REF!", "INDEX", grid(great, 1<<61+1, "1", "2", "3", "4", "5", "6", "7", "8", "9"), plain("9"), plain("1"))
	known(t, "#REF!", "INDEX", grid(great, 1<<32, "1", "2"), plain("4294967297"), plain("1"))
	known(t, "3", "INDEX", grid(great, 1, "1", "2", "3"), plain("3"))
	known(t, "#REF!", "INDEX", grid(great, 1, "1", "2", "3"), plain("4"))
	at := []string{"-1", "0", "0.5", "1", "2", "2.5", "3", "4", "5", "7", "8", "9", "2147483649", "4294967297", "922337203685477.5807", "-922337203685477.5807"}
	for _, a := range shaped() {
		for _, row := range at {
			hold(t, "INDEX", a, plain(row))
			for _, col := range at {
				hold(t, "INDEX", a, plain(row), plain(col))
			}
		}
	}
}

// P14.1: ISERROR and IFERROR of errors, of areas, and of both.
func TestErrors(t *testing.T) {
	formulas(t, [][]string{
		{"TRUE", "ISERROR", "#REF!"}, {"TRUE", "ISERROR", "#VALUE!"}, {"TRUE", "ISERROR", "#DIV/0!"}, {"TRUE", "ISERROR", "#NUM!"}, {"TRUE", "ISERROR", "#CYCLE!"}, {"FALSE", "ISERROR", "'#REF!"}, {"FALSE", "ISERROR", ""}, {"FALSE", "ISERROR", "0"}, {"FALSE", "ISERROR", "TRUE"}, {"FALSE", "ISERROR", "'a"},
		{"5", "IFERROR", "#REF!", "5"}, {"#NUM!", "IFERROR", "#REF!", "#NUM!"}, {"1", "IFERROR", "1", "5"}, {"1", "IFERROR", "1", "#REF!"}, {"", "IFERROR", "", "5"}, {"", "IFERROR", "#REF!", ""}, {"'1", "IFERROR", "'1", "5"}, {"TRUE", "IFERROR", "#CYCLE!", "TRUE"}, {"'#REF!", "IFERROR", "'#REF!", "5"},
	})
	known(t, "FALSE", "ISERROR", plain())
	known(t, "FALSE", "ISERROR", plain("1", "#REF!"))
	known(t, "", "IFERROR", plain(), plain("5"))
	for _, a := range []api.Arg{area(), area("1"), area("1", "2"), area("#REF!"), grid(0, 0, "1"), {Area: true}} {
		known(t, "TRUE", "ISERROR", a)
		known(t, "5", "IFERROR", a, plain("5"))
		known(t, "#VALUE!", "IFERROR", a, a)
		known(t, "#VALUE!", "IFERROR", plain("#REF!"), a)
		known(t, "1", "IFERROR", plain("1"), a)
		known(t, "#REF!", "IFERROR", a, plain("#REF!"))
	}
}

// P14.1: areas where an argument is none count as the error EValue, whatever they hold, and stand in the order of errors.
func TestAreas(t *testing.T) {
	for _, a := range []api.Arg{area("1"), area("TRUE"), area("'a"), area("#REF!"), area(), area("1", "2"), {Area: true, Rows: 1, Cols: 1}, {Area: true, Rows: -1, Cols: -1, L: literals([]string{"1"})}} {
		for _, name := range []string{"NOT", "ABS", "FLOOR", "SQRT", "LEN", "LEFT"} {
			known(t, "#VALUE!", name, a)
		}
		for _, name := range []string{"ROUND", "MOD", "LEFT"} {
			known(t, "#VALUE!", name, a, plain("1"))
			known(t, "#VALUE!", name, plain("1"), a)
			known(t, "#VALUE!", name, a, plain("#NUM!"))
			known(t, "#NUM!", name, plain("#NUM!"), a)
			known(t, "#VALUE!", name, a, a)
		}
		known(t, "#VALUE!", "IF", a, plain("1"), plain("2"))
		known(t, "#VALUE!", "IF", a, plain("#REF!"))
		known(t, "#VALUE!", "IF", plain("TRUE"), a, plain("2"))
		known(t, "#VALUE!", "IF", plain("FALSE"), plain("1"), a)
		known(t, "2", "IF", plain("FALSE"), a, plain("2"))
		known(t, "1", "IF", plain("TRUE"), plain("1"), a)
		known(t, "FALSE", "IF", plain("FALSE"), a)
		known(t, "#NUM!", "IF", plain("#NUM!"), a, a)
		known(t, "#VALUE!", "INDEX", area("1"), a)
		known(t, "#VALUE!", "INDEX", area("1"), a, plain("#NUM!"))
		known(t, "#VALUE!", "INDEX", area("1"), plain("1"), a)
		known(t, "#VALUE!", "INDEX", area("1"), plain("9"), a)
		known(t, "#NUM!", "INDEX", area("1"), plain("#NUM!"), a)
		known(t, "#NUM!", "INDEX", a, plain("#NUM!"), a)
	}
}

// P14.1: of what is no area the first value alone plays a part; a Blank, if there is none.
func TestArguments(t *testing.T) {
	none, several := []api.Arg{{}, plain(), alone([]api.Value{}...)}, plain("2", "#REF!", "'a")
	for _, a := range append(none, plain("")) {
		for name, want := range map[string]string{"NOT": "TRUE", "ABS": "0", "FLOOR": "0", "SQRT": "0", "LEN": "0", "LEFT": "'", "ISERROR": "FALSE"} {
			known(t, want, name, a)
		}
		known(t, "2", "IF", a, plain("1"), plain("2"))
		known(t, "", "IF", plain("1"), a)
		known(t, "3", "ROUND", plain("2.5"), a)
		known(t, "#DIV/0!", "MOD", plain("2.5"), a)
		known(t, "'", "LEFT", plain("'abc"), a)
		known(t, "#REF!", "INDEX", area("1"), a)
		known(t, "#REF!", "INDEX", area("1"), plain("1"), a)
		known(t, "", "IFERROR", plain("#REF!"), a)
	}
	for name, want := range map[string]string{"NOT": "FALSE", "ABS": "2", "FLOOR": "2", "SQRT": "1.4142", "LEN": "1", "LEFT": "'2", "ISERROR": "FALSE"} {
		known(t, want, name, several)
	}
	known(t, "2", "IF", several, several, plain("#NUM!"))
	known(t, "1.23", "ROUND", plain("1.2345"), several)
	known(t, "1", "MOD", plain("3"), several)
	known(t, "'ab", "LEFT", plain("'abc"), several)
	known(t, "4", "INDEX", grid(2, 2, "1", "2", "3", "4"), several, several)
	known(t, "2", "IFERROR", several, plain("1"))
	// What a value says of its rows and columns plays no part.
	known(t, "2", "ABS", api.Arg{Rows: 3, Cols: -1, L: literals([]string{"-2"})})
}

// P14.1: values that are not as Normal has them are as it has them, asked for and answered.
func TestNotNormal(t *testing.T) {
	for _, v := range odd() {
		a, is := alone(v), value.Normal(v)
		for _, answered := range []api.Value{
			Call("IF", []api.Arg{plain("TRUE"), a}), Call("IF", []api.Arg{plain("FALSE"), plain("1"), a}), Call("IFERROR", []api.Arg{a, a}), Call("IFERROR", []api.Arg{plain("#REF!"), a}),
			Call("INDEX", []api.Arg{a, plain("1")}), Call("INDEX", []api.Arg{with(v), plain("1")}), Call("INDEX", []api.Arg{with(api.Value{}, v), plain("2")}),
		} {
			if answered != is {
				t.Errorf("of %s: %s", brief(v), brief(answered))
			}
		}
		if got := Call("ISERROR", []api.Arg{a}); got != value.Bool(is.K == api.Error) {
			t.Errorf("ISERROR of %s: %s", brief(v), brief(got))
		}
		for name, count := range takes() {
			for n := count[0]; n <= min(count[1], 3); n++ {
				hold(t, name, slices.Repeat([]api.Arg{a}, n)...)
				hold(t, name, slices.Repeat([]api.Arg{with(v)}, n)...)
			}
		}
	}
	known(t, "#NUM!", "ABS", alone(api.Value{K: api.Number, N: least}))
	known(t, "#VALUE!", "LEN", alone(api.Value{K: api.Text, S: letters(301)}))
	known(t, "#VALUE!", "LEFT", alone(api.Value{K: api.Text, S: letters(301)}), plain("1"))
	known(t, "1", "ABS", alone(api.Value{K: api.Bool, N: -7}))
	known(t, "'TRUE", "LEFT", alone(api.Value{K: api.Bool, N: 2}), plain("9"))
	known(t, "0", "LEN", alone(api.Value{K: 7, N: 5, S: "abc", E: 1}))
	known(t, "FALSE", "NOT", alone(api.Value{K: api.Bool, N: least}))
	known(t, "TRUE", "ISERROR", alone(api.Value{K: api.Error, E: 77}))
}

// P14.1: all values as single arguments, and two by two.
func TestPairs(t *testing.T) {
	all := every()
	for _, a := range all {
		for name := range takes() {
			hold(t, name, alone(a))
			hold(t, name, with(a))
		}
		for _, b := range all {
			for _, name := range []string{"IF", "ROUND", "MOD", "LEFT", "INDEX", "IFERROR"} {
				hold(t, name, alone(a), alone(b))
			}
			hold(t, "INDEX", with(a, a), alone(b))
		}
	}
}

// P14.1: values three by three, of all sorts, areas among them.
func TestTriples(t *testing.T) {
	var all []api.Arg
	for _, v := range some() {
		all = append(all, alone(v))
	}
	all = append(all, api.Arg{}, area(), area("1"), area("#NUM!"), grid(2, 2, "1", "#DIV/0!", "'c"), grid(1, 3, "'x", "", "3"))
	for _, a := range all {
		for _, b := range all {
			for _, c := range all {
				hold(t, "IF", a, b, c)
				hold(t, "INDEX", a, b, c)
			}
		}
	}
}

// P14.1: calls made by chance.
func TestByChance(t *testing.T) {
	c, all, fewer := byChance(1), every(), some()
	for range 20000 {
		name, l := c.call(all)
		hold(t, name, l...)
		name, l = c.call(fewer)
		hold(t, name, l...)
	}
	for range 50000 {
		a, b := alone(value.Num(c.number())), alone(value.Num(c.number()))
		for _, name := range []string{"ABS", "FLOOR", "SQRT"} {
			hold(t, name, a)
		}
		hold(t, "MOD", a, b)
		hold(t, "ROUND", a, b)
		hold(t, "ROUND", a, alone(value.Num(c.Int64N(300000)-200000)))
	}
}
