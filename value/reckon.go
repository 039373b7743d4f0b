package value

import (
	"cmp"
	"strings"

	"cadastre/api"
	"cadastre/fix"
)

// ToNum is a value as a Number.
func ToNum(v api.Value) api.Value {
	v = Normal(v)
	switch v.K {
	case api.Error:
		return v
	case api.Text:
		if n, is := numeral(v.S); is {
			return n
		}
		return Err(api.EValue)
	case api.Bool:
		return Num(v.N * api.One)
	}
	// A Blank that is normal has 0 there.
	return Num(v.N)
}

// ToText is a value as a Text.
func ToText(v api.Value) api.Value {
	v = Normal(v)
	if v.K == api.Error {
		return v
	}
	return Text(Show(v))
}

// ToBool is a value as a Bool.
func ToBool(v api.Value) api.Value {
	v = Normal(v)
	switch v.K {
	case api.Error:
		return v
	case api.Text:
		if is, known := truth(v.S); known {
			return is
		}
		return Err(api.EValue)
	}
	return Bool(v.N != 0)
}

// Compare tells whether a is ahead of b, the same, or behind it, beside a Blank; or the first error of them.
func Compare(a, b api.Value) (int, api.Value) {
	a, b = Normal(a), Normal(b)
	if e, is := firstError(a, b); is {
		return 0, e
	}
	a, b = blankAs(b.K, a), blankAs(a.K, b)
	// Of one kind only the field differs that the kind has.
	return cmp.Or(
		cmp.Compare(rank(a.K), rank(b.K)),
		cmp.Compare(a.N, b.N),
		strings.Compare(a.S, b.S),
	), api.Value{}
}

// Arith is a and b, reckoned by an operator.
func Arith(op byte, a, b api.Value) api.Value {
	reckon := operator(op)
	if reckon == nil {
		return Err(api.EValue)
	}
	a, b = ToNum(a), ToNum(b)
	if e, is := firstError(a, b); is {
		return e
	}
	return reckon(a.N, b.N)
}

// Neg is a with the other sign.
func Neg(a api.Value) api.Value {
	a = ToNum(a)
	if a.K == api.Error {
		return a
	}
	return Num(-a.N)
}

// Join is the text of a, and behind it that of b.
func Join(a, b api.Value) api.Value {
	a, b = ToText(a), ToText(b)
	if e, is := firstError(a, b); is {
		return e
	}
	return Text(a.S + b.S)
}

// firstError is the first of values that is an error.
func firstError(l ...api.Value) (api.Value, bool) {
	for _, v := range l {
		if v.K == api.Error {
			return v, true
		}
	}
	return api.Value{}, false
}

// blankAs is v, or, if it is Blank, the value of a kind that a Blank is as.
func blankAs(kind int, v api.Value) api.Value {
	if v.K == api.Blank {
		// 0, the empty Text and FALSE have all fields 0 but the kind.
		return api.Value{K: kind}
	}
	return v
}

// rank is where a kind stands among the others, when values are put in order.
func rank(kind int) int {
	switch kind {
	case api.Number:
		return 1
	case api.Text:
		return 2
	case api.Bool:
		return 3
	}
	return 0
}

// operator is what a sign does with two numbers, none for what is no sign.
func operator(op byte) func(a, b int64) api.Value {
	switch op {
	case '+':
		return told(fix.Add)
	case '-':
		return told(fix.Sub)
	case '*':
		return told(fix.Mul)
	case '/':
		return divided(told(fix.Div))
	}
	return nil
}

// told is an operator on numbers that tells by an error that no number comes.
func told(by func(a, b int64) (int64, bool)) func(a, b int64) api.Value {
	return func(a, b int64) api.Value {
		n, ok := by(a, b)
		if !ok {
			return Err(api.ENum)
		}
		return Num(n)
	}
}

// divided is an operator that has an error of its own for a 0 on the right.
func divided(by func(a, b int64) api.Value) func(a, b int64) api.Value {
	return func(a, b int64) api.Value {
		if b == 0 {
			return Err(api.EDiv)
		}
		return by(a, b)
	}
}
