package funcs

import (
	"cadastre/api"
	"cadastre/value"
)

// failure is the error by which a call fails.
type failure int

// args are the arguments of a call. What is asked of one that is an error, or comes to one, fails the call.
type args []api.Arg

// single is an argument as the one value that it is, an error too.
func (l args) single(i int) api.Value {
	if l[i].Area {
		return value.Err(api.EValue)
	}
	if len(l[i].L) == 0 {
		return api.Value{}
	}
	return value.Normal(l[i].L[0])
}

// number is an argument as a number.
func (l args) number(i int) int64 { return must(value.ToNum(l.single(i))).N }

// text is an argument as a text.
func (l args) text(i int) string { return must(value.ToText(l.single(i))).S }

// truth is an argument as a truth.
func (l args) truth(i int) bool { return must(value.ToBool(l.single(i))).N != 0 }

// whole is the whole number next below an argument: there is one below the least number, too, where fix.Floor has none.
func (l args) whole(i int) int {
	n := l.number(i)
	whole := int(n / api.One)
	// Go divides towards 0.
	if n%api.One < 0 {
		whole--
	}
	return whole
}

// wholeOrOne is the whole number next below an argument that may be left out.
func (l args) wholeOrOne(i int) int {
	if i >= len(l) {
		return 1
	}
	return l.whole(i)
}

// area is an argument as an area.
func (l args) area(i int) api.Arg {
	if l[i].Area {
		return l[i]
	}
	return api.Arg{Area: true, Rows: 1, Cols: 1, L: []api.Value{l.single(i)}}
}

// must is a value that is no error.
func must(v api.Value) api.Value {
	if v.K == api.Error {
		panic(failure(v.E))
	}
	return v
}
