package value

import (
	"math"
	"strings"
	"testing"

	"cadastre/api"
)

// brief is a value without the length of its text.
func brief(v api.Value) api.Value {
	if len(v.S) > 40 {
		v.S = v.S[:40] + ".."
	}
	return v
}

func hold(t *testing.T, what string, got, want api.Value) {
	t.Helper()
	if got != want {
		t.Errorf("%q: %v, not %v", what, brief(got), brief(want))
	}
}

// P4.1: values of each kind, values that can't be, and fields that play no part.
func TestNormal(t *testing.T) {
	for _, v := range values() {
		if got := Normal(v); got != said(v) {
			t.Errorf("Normal of %v: %v, not %v", brief(v), brief(got), brief(said(v)))
		}
		if got := Normal(Normal(v)); got != said(v) {
			t.Errorf("Normal of Normal of %v: %v", brief(v), brief(got))
		}
	}
}

// P4.1: by hand.
func TestNormalByHand(t *testing.T) {
	for _, c := range []struct{ v, want api.Value }{
		{api.Value{N: 1, S: "a", E: 1}, api.Value{}},
		{api.Value{K: 5, N: 1, S: "a", E: 1}, api.Value{}},
		{api.Value{K: -1, E: 4}, api.Value{}},
		{api.Value{K: api.Bool, N: 2}, api.Value{K: api.Bool, N: 1}},
		{api.Value{K: api.Bool, N: -1, S: "a", E: 2}, api.Value{K: api.Bool, N: 1}},
		{api.Value{K: api.Bool, N: math.MinInt64}, api.Value{K: api.Bool, N: 1}},
		{api.Value{K: api.Bool, S: "TRUE", E: 2}, api.Value{K: api.Bool}},
		{api.Value{K: api.Number, N: 7, S: "8", E: 2}, api.Value{K: api.Number, N: 7}},
		{api.Value{K: api.Number, N: math.MinInt64}, api.Value{K: api.Error, E: api.ENum}},
		{api.Value{K: api.Number, N: math.MinInt64, E: 1}, api.Value{K: api.Error, E: api.ENum}},
		{api.Value{K: api.Number, N: -api.Most}, api.Value{K: api.Number, N: -api.Most}},
		{api.Value{K: api.Text, S: "a", N: 1, E: 1}, api.Value{K: api.Text, S: "a"}},
		{api.Value{K: api.Text, N: 1}, api.Value{K: api.Text}},
		{api.Value{K: api.Text, S: letters(300)}, api.Value{K: api.Text, S: letters(300)}},
		{api.Value{K: api.Text, S: letters(301)}, api.Value{K: api.Error, E: api.EValue}},
		{api.Value{K: api.Error, E: api.ECycle, N: 4, S: "a"}, api.Value{K: api.Error, E: api.ECycle}},
		{api.Value{K: api.Error}, api.Value{K: api.Error, E: api.EValue}},
		{api.Value{K: api.Error, E: 6}, api.Value{K: api.Error, E: api.EValue}},
		{api.Value{K: api.Error, E: -1}, api.Value{K: api.Error, E: api.EValue}},
	} {
		hold(t, "Normal", Normal(c.v), c.want)
	}
}

// P4.1: Num, Text, Bool, Err are Normal of such.
func TestMakers(t *testing.T) {
	for _, n := range numbers() {
		hold(t, "Num", Num(n), said(api.Value{K: api.Number, N: n}))
	}
	for _, s := range texts() {
		hold(t, "Text", Text(s), said(api.Value{K: api.Text, S: s}))
	}
	hold(t, "Bool", Bool(true), api.Value{K: api.Bool, N: 1})
	hold(t, "Bool", Bool(false), api.Value{K: api.Bool})
	for _, e := range []int{math.MinInt, -1, 0, 1, 2, 3, 4, 5, 6, 7, 256, math.MaxInt} {
		hold(t, "Err", Err(e), said(api.Value{K: api.Error, E: e}))
	}
}

// P4.1: the errors' names, and none of others.
func TestErrName(t *testing.T) {
	for _, c := range []struct {
		e    int
		want string
	}{
		{api.ERef, "#REF!"}, {api.EValue, "#VALUE!"}, {api.EDiv, "#DIV/0!"}, {api.ENum, "#NUM!"}, {api.ECycle, "#CYCLE!"},
		{0, ""}, {6, ""}, {7, ""}, {-1, ""}, {100, ""}, {257, ""}, {math.MinInt, ""}, {math.MaxInt, ""},
	} {
		if got := ErrName(c.e); got != c.want {
			t.Errorf("ErrName of %d: %q, not %q", c.e, got, c.want)
		}
	}
}

// P4.1: Show of each kind, of values that can't be as what they are as.
func TestShow(t *testing.T) {
	for _, v := range values() {
		if got := Show(v); got != shown(v) {
			t.Errorf("Show of %v: %.40q, not %.40q", brief(v), got, shown(v))
		}
	}
	for _, c := range []struct {
		v    api.Value
		want string
	}{
		{api.Value{S: "a"}, ""}, {api.Value{K: 7, S: "a"}, ""}, {Bool(true), "TRUE"}, {Bool(false), "FALSE"}, {api.Value{K: api.Bool, N: 2}, "TRUE"},
		{Num(0), "0"}, {Num(-12500), "-1.25"}, {Num(api.Most), "922337203685477.5807"}, {api.Value{K: api.Number, N: math.MinInt64}, "#NUM!"},
		{Text(""), ""}, {Text(" a "), " a "}, {Text("'a"), "'a"}, {api.Value{K: api.Text, S: letters(301)}, "#VALUE!"},
		{Err(api.EDiv), "#DIV/0!"}, {api.Value{K: api.Error, E: 9}, "#VALUE!"},
	} {
		if got := Show(c.v); got != c.want {
			t.Errorf("Show of %v: %q, not %q", brief(c.v), got, c.want)
		}
	}
}

// P4.5: Literal, against what the chapter says.
func TestLiteral(t *testing.T) {
	for _, s := range texts() {
		for _, ahead := range []string{"", "'", "''", " ", "-"} {
			hold(t, "Literal of "+brief(api.Value{S: ahead + s}).S, Literal(ahead+s), read(ahead+s))
		}
	}
	for b := range 256 {
		for _, s := range []string{"1", "TRUE", "#REF!", ""} {
			other := string([]byte{byte(b)})
			hold(t, "Literal of "+other+s, Literal(other+s), read(other+s))
			hold(t, "Literal of "+s+other, Literal(s+other), read(s+other))
		}
	}
}

// P4.5: by hand.
func TestLiteralByHand(t *testing.T) {
	for _, c := range []struct {
		s    string
		want api.Value
	}{
		{"", api.Value{}}, {"0", Num(0)}, {"-0", Num(0)}, {"1.25", Num(12500)}, {"-007.5", Num(-75000)}, {"0.00005", Num(1)},
		{"922337203685477.5807", Num(api.Most)}, {"922337203685477.5808", Err(api.ENum)}, {"-922337203685477.5808", Err(api.ENum)},
		{strings.Repeat("9", 40), Err(api.ENum)}, {strings.Repeat("9", 41), Text(strings.Repeat("9", 41))}, {".5", Text(".5")}, {"+1", Text("+1")}, {"1 ", Text("1 ")},
		{"TRUE", Bool(true)}, {"FALSE", Bool(false)}, {"true", Text("true")}, {"False", Text("False")}, {"TRUE ", Text("TRUE ")},
		{"#REF!", Err(api.ERef)}, {"#VALUE!", Err(api.EValue)}, {"#DIV/0!", Err(api.EDiv)}, {"#NUM!", Err(api.ENum)}, {"#CYCLE!", Err(api.ECycle)}, {"#ref!", Text("#ref!")}, {"#REF", Text("#REF")},
		{"'", Text("")}, {"''", Text("'")}, {"'1", Text("1")}, {"'TRUE", Text("TRUE")}, {"'#REF!", Text("#REF!")}, {"'=A1", Text("=A1")}, {"' 1", Text(" 1")}, {"1'", Text("1'")},
		{"=A1", Text("=A1")}, {"a", Text("a")}, {" ", Text(" ")},
		{letters(300), Text(letters(300))}, {letters(301), Err(api.EValue)}, {"'" + letters(300), Text(letters(300))}, {"'" + letters(301), Err(api.EValue)},
	} {
		hold(t, "Literal of "+brief(api.Value{S: c.s}).S, Literal(c.s), c.want)
	}
}

// P4.6: what is shown is read as it was, unless it is a Text; that is read behind a '.
func TestShownAndRead(t *testing.T) {
	for _, v := range values() {
		v = Normal(v)
		if v.K == api.Text {
			hold(t, "Literal of a ' and a Text", Literal("'"+v.S), v)
			continue
		}
		hold(t, "Literal of Show", Literal(Show(v)), v)
	}
}
