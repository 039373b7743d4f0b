package value

import (
	"math"
	"strings"
	"testing"

	"cadastre/api"
)

// P4.2: all values as a Number, a Text, a Bool.
func TestTo(t *testing.T) {
	for _, v := range values() {
		what := Show(brief(v))
		hold(t, "ToNum of "+what, ToNum(v), asNumber(v))
		hold(t, "ToText of "+what, ToText(v), asText(v))
		hold(t, "ToBool of "+what, ToBool(v), asBool(v))
	}
}

// P4.2: by hand, the chapter's example among them.
func TestToByHand(t *testing.T) {
	wrong, great := Err(api.EValue), Err(api.ENum)
	for _, c := range []struct{ v, number, text, truth api.Value }{
		{api.Value{}, Num(0), Text(""), Bool(false)},
		{api.Value{K: 8, N: 5, S: "5", E: 1}, Num(0), Text(""), Bool(false)},
		{Bool(true), Num(10000), Text("TRUE"), Bool(true)},
		{Bool(false), Num(0), Text("FALSE"), Bool(false)},
		{api.Value{K: api.Bool, N: 5}, Num(10000), Text("TRUE"), Bool(true)},
		{api.Value{K: api.Bool, N: math.MinInt64}, Num(10000), Text("TRUE"), Bool(true)},
		{Num(0), Num(0), Text("0"), Bool(false)},
		{Num(1), Num(1), Text("0.0001"), Bool(true)},
		{Num(-5000), Num(-5000), Text("-0.5"), Bool(true)},
		{api.Value{K: api.Number, N: math.MinInt64}, great, great, great},
		{Text(""), wrong, Text(""), wrong},
		{Text("1.5"), Num(15000), Text("1.5"), wrong},
		{Text("01.50"), Num(15000), Text("01.50"), wrong},
		{Text("0"), Num(0), Text("0"), wrong},
		{Text("1"), Num(10000), Text("1"), wrong},
		{Text("1 "), wrong, Text("1 "), wrong},
		{Text("TRUE"), wrong, Text("TRUE"), Bool(true)},
		{Text("FALSE"), wrong, Text("FALSE"), Bool(false)},
		{Text("true"), wrong, Text("true"), wrong},
		{Text("False"), wrong, Text("False"), wrong},
		{Text("#REF!"), wrong, Text("#REF!"), wrong},
		{Text("'1"), wrong, Text("'1"), wrong},
		{Text(strings.Repeat("9", 40)), great, Text(strings.Repeat("9", 40)), wrong},
		{Text(strings.Repeat("9", 41)), wrong, Text(strings.Repeat("9", 41)), wrong},
		{Text(letters(300)), wrong, Text(letters(300)), wrong},
		{api.Value{K: api.Text, S: letters(301)}, wrong, wrong, wrong},
		{Err(api.ERef), Err(api.ERef), Err(api.ERef), Err(api.ERef)},
		{Err(api.ECycle), Err(api.ECycle), Err(api.ECycle), Err(api.ECycle)},
		{api.Value{K: api.Error, E: 77, N: 1, S: "1"}, wrong, wrong, wrong},
	} {
		what := Show(brief(c.v))
		hold(t, "ToNum of "+what, ToNum(c.v), c.number)
		hold(t, "ToText of "+what, ToText(c.v), c.text)
		hold(t, "ToBool of "+what, ToBool(c.v), c.truth)
	}
}

// P4.3: all pairs of values.
func TestCompare(t *testing.T) {
	l := values()
	for _, a := range l {
		for _, b := range l {
			n, e := Compare(a, b)
			if want, told := held(a, b); n != want || e != told {
				t.Fatalf("Compare of %v and %v: %d %v, not %d %v", brief(a), brief(b), n, brief(e), want, told)
			}
		}
	}
}

// P4.3: by hand, the chapter's example among them.
func TestCompareByHand(t *testing.T) {
	for _, c := range []struct {
		a, b api.Value
		want int
	}{
		{api.Value{}, Text("a"), -1}, {api.Value{}, Text(""), 0}, {api.Value{}, Num(0), 0}, {api.Value{}, Num(1), -1}, {api.Value{}, Num(-1), 1},
		{api.Value{}, Bool(false), 0}, {api.Value{}, Bool(true), -1}, {api.Value{}, api.Value{}, 0}, {api.Value{K: 9, N: 4, S: "a"}, api.Value{}, 0},
		{Num(2), Num(10), -1}, {Num(-2), Num(-10), 1}, {Num(-api.Most), Num(api.Most), -1}, {Num(5), Num(5), 0},
		{Text("2"), Text("10"), 1}, {Text("a"), Text("ab"), -1}, {Text("ab"), Text("a"), 1}, {Text(""), Text("\x00"), -1}, {Text("Z"), Text("a"), -1}, {Text("\xff"), Text("a"), 1}, {Text("a"), Text("a"), 0},
		{Bool(false), Bool(true), -1}, {Bool(true), Bool(true), 0}, {Bool(true), api.Value{K: api.Bool, N: 9}, 0}, {api.Value{K: api.Bool, N: -9}, Bool(false), 1},
		{Num(api.Most), Text(""), -1}, {Text("TRUE"), Bool(false), -1}, {Num(10000), Bool(true), -1}, {Bool(false), Num(0), 1}, {Text("1"), Num(10000), 1},
		{api.Value{K: api.Number, N: 1, S: "a", E: 2}, api.Value{K: api.Number, N: 1, S: "b", E: 3}, 0},
		{api.Value{K: api.Text, N: 1, S: "a", E: 2}, api.Value{K: api.Text, N: 2, S: "a", E: 3}, 0},
	} {
		if n, e := Compare(c.a, c.b); n != c.want || e != (api.Value{}) {
			t.Errorf("Compare of %v and %v: %d %v, not %d", c.a, c.b, n, e, c.want)
		}
	}
	for _, c := range []struct{ a, b, want api.Value }{
		{Err(api.ERef), Num(1), Err(api.ERef)}, {Num(1), Err(api.ERef), Err(api.ERef)}, {api.Value{}, Err(api.EDiv), Err(api.EDiv)},
		{Err(api.ENum), Err(api.ERef), Err(api.ENum)}, {Err(api.ERef), Err(api.ENum), Err(api.ERef)}, {Err(api.ERef), Err(api.ERef), Err(api.ERef)},
		{api.Value{K: api.Number, N: math.MinInt64}, Err(api.ERef), Err(api.ENum)}, {Num(1), api.Value{K: api.Text, S: letters(301)}, Err(api.EValue)},
		{api.Value{K: api.Error, N: 3, S: "a"}, Err(api.ERef), Err(api.EValue)},
	} {
		if n, e := Compare(c.a, c.b); n != 0 || e != c.want {
			t.Errorf("Compare of %v and %v: %d %v, not 0 %v", brief(c.a), brief(c.b), n, e, c.want)
		}
	}
}

// P4.4: all pairs of values, by each operator and some others.
func TestArith(t *testing.T) {
	l := values()
	for _, a := range l {
		for _, b := range l {
			for _, op := range []byte("+-*/&") {
				if got, want := Arith(op, a, b), reckoned(op, a, b); got != want {
					t.Fatalf("Arith %c of %v and %v: %v, not %v", op, brief(a), brief(b), got, want)
				}
			}
		}
	}
}

// P4.4: by hand, the chapter's example among them.
func TestArithByHand(t *testing.T) {
	one, wrong, great, none := Num(10000), Err(api.EValue), Err(api.ENum), Err(api.EDiv)
	for _, c := range []struct {
		op         byte
		a, b, want api.Value
	}{
		{'+', one, Bool(true), Num(20000)}, {'-', api.Value{}, one, Num(-10000)}, {'*', Num(15000), Num(15000), Num(22500)}, {'/', one, Num(30000), Num(3333)}, {'/', Num(-20000), Num(30000), Num(-6667)},
		{'+', Text("1.5"), Text("2"), Num(35000)}, {'*', Text("TRUE"), one, wrong}, {'+', Text(strings.Repeat("9", 30)), one, great}, {'+', Text(""), one, wrong},
		{'/', one, Bool(false), none}, {'/', one, Num(0), none}, {'/', one, api.Value{}, none}, {'/', one, Text("0"), none}, {'/', one, Text("-0.00004"), none}, {'/', Num(0), Num(0), none}, {'/', one, api.Value{K: 77, N: 5}, none},
		{'/', Num(0), one, Num(0)}, {'/', one, Text("a"), wrong}, {'/', Err(api.ERef), Num(0), Err(api.ERef)},
		{'+', Num(api.Most), Num(1), great}, {'-', Num(-api.Most), Num(1), great}, {'*', Num(api.Most), Num(20000), great}, {'*', Num(api.Most), Num(10001), great}, {'/', Num(api.Most), Num(1), great}, {'/', Num(api.Most), Num(9999), great},
		{'+', Num(api.Most - 1), Num(1), Num(api.Most)}, {'*', Num(-api.Most), one, Num(-api.Most)}, {'*', Num(1), Num(4999), Num(0)}, {'*', Num(1), Num(5000), Num(1)},
		{'+', api.Value{K: api.Number, N: math.MinInt64}, one, great},
		{'+', Text("a"), Err(api.ERef), wrong}, {'+', Err(api.ERef), Text("a"), Err(api.ERef)}, {'*', one, Err(api.ECycle), Err(api.ECycle)}, {'-', Err(api.ECycle), Err(api.ERef), Err(api.ECycle)},
		{'^', one, one, wrong}, {'&', one, one, wrong}, {0, one, one, wrong}, {255, one, one, wrong}, {'%', Err(api.ERef), Err(api.EDiv), wrong},
	} {
		if got := Arith(c.op, c.a, c.b); got != c.want {
			t.Errorf("Arith %c of %v and %v: %v, not %v", c.op, c.a, c.b, got, c.want)
		}
	}
	for op := range 256 {
		if strings.IndexByte("+-*/", byte(op)) < 0 {
			hold(t, "Arith of another operator", Arith(byte(op), one, one), wrong)
		}
	}
}

// P4.4: Neg is ToNum with the other sign.
func TestNeg(t *testing.T) {
	for _, v := range values() {
		want := asNumber(v)
		want.N = -want.N
		hold(t, "Neg of "+Show(brief(v)), Neg(v), want)
	}
	for _, c := range []struct{ v, want api.Value }{
		{Num(0), Num(0)}, {Num(api.Most), Num(-api.Most)}, {Num(-api.Most), Num(api.Most)}, {api.Value{}, Num(0)}, {Bool(true), Num(-10000)}, {Text("-1.5"), Num(15000)},
		{Text("a"), Err(api.EValue)}, {Err(api.ECycle), Err(api.ECycle)}, {api.Value{K: api.Number, N: math.MinInt64}, Err(api.ENum)},
	} {
		hold(t, "Neg of "+Show(c.v), Neg(c.v), c.want)
	}
}

// P4.4: all pairs of values, joined.
func TestJoin(t *testing.T) {
	l := values()
	for _, a := range l {
		for _, b := range l {
			if got, want := Join(a, b), joined(a, b); got != want {
				t.Fatalf("Join of %v and %v: %v, not %v", brief(a), brief(b), brief(got), brief(want))
			}
		}
	}
	for _, c := range []struct{ a, b, want api.Value }{
		{Num(10000), Text("a"), Text("1a")}, {Text("a"), Num(-5000), Text("a-0.5")}, {Bool(true), Bool(false), Text("TRUEFALSE")}, {api.Value{}, api.Value{}, Text("")}, {api.Value{}, Text("a"), Text("a")},
		{Text(letters(150)), Text(letters(150)), Text(letters(300))}, {Text(letters(150)), Text(letters(151)), Err(api.EValue)}, {Text(letters(300)), Num(0), Err(api.EValue)}, {Text(letters(300)), api.Value{}, Text(letters(300))},
		{Text("a"), Err(api.ERef), Err(api.ERef)}, {Err(api.EDiv), Err(api.ERef), Err(api.EDiv)}, {api.Value{K: api.Text, S: letters(301)}, Err(api.ERef), Err(api.EValue)}, {Text(letters(300)), Err(api.ERef), Err(api.ERef)},
	} {
		hold(t, "Join", Join(c.a, c.b), c.want)
	}
}

// P4.7: Compare is the other way round of b and a.
func TestOtherWayRound(t *testing.T) {
	for _, a := range values() {
		for _, b := range values() {
			n, e := Compare(a, b)
			back, other := Compare(b, a)
			if n != -back || (e == api.Value{}) != (other == api.Value{}) {
				t.Fatalf("Compare of %v and %v: %d, and back %d", brief(a), brief(b), n, back)
			}
		}
	}
}

// P4.7: the order goes on over three values of which none is Blank.
func TestOrderGoesOn(t *testing.T) {
	var l []api.Value
	for _, v := range kinds() {
		if v = Normal(v); v.K != api.Blank && v.K != api.Error {
			l = append(l, v)
		}
	}
	for _, a := range l {
		for _, b := range l {
			first, _ := Compare(a, b)
			for _, c := range l {
				second, _ := Compare(b, c)
				whole, _ := Compare(a, c)
				if first <= 0 && second <= 0 && (whole > 0 || whole == 0 && first+second < 0) {
					t.Errorf("%v, %v, %v: %d, %d, but %d", brief(a), brief(b), brief(c), first, second, whole)
				}
			}
		}
	}
}

// P4.8: what is reckoned with an error is an error, of two the left one.
func TestErrorsFirst(t *testing.T) {
	for _, v := range kinds() {
		for e := 1; e <= 5; e++ {
			err := Err(e)
			left := err
			if Normal(v).K == api.Error {
				left = Normal(v)
			}
			_, right := Compare(v, err)
			hold(t, "Compare with an error on the right", right, left)
			hold(t, "Join with an error on the right", Join(v, err), left)
			for _, op := range []byte("+-*/") {
				number := left
				if n := ToNum(v); n.K == api.Error {
					number = n
				}
				hold(t, "Arith with an error on the right", Arith(op, v, err), number)
				hold(t, "Arith with an error on the left", Arith(op, err, v), err)
			}
			_, told := Compare(err, v)
			hold(t, "Compare with an error on the left", told, err)
			hold(t, "Join with an error on the left", Join(err, v), err)
		}
	}
	for e := 1; e <= 5; e++ {
		for _, turn := range []func(api.Value) api.Value{Normal, ToNum, ToText, ToBool, Neg} {
			hold(t, "an error alone", turn(Err(e)), Err(e))
		}
	}
}
