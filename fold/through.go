package fold

import (
	"cadastre/api"
	"cadastre/value"
)

// each shows see all values, in their order, and whether they are an area's.
func each(l []api.Arg, see func(v api.Value, area bool)) {
	for _, a := range l {
		if !a.Area {
			see(only(a.L), false)
			continue
		}
		for _, v := range a.L {
			see(value.Normal(v), true)
		}
	}
}

// only is the value of an argument that is no area.
func only(l []api.Value) api.Value {
	if len(l) == 0 {
		return api.Value{}
	}
	return value.Normal(l[0])
}

// through shows see what turn makes of the values, in their order, but Blanks, which are passed over, and errors: failed is the first of these, a Blank if there is none.
func through(l []api.Arg, turn func(v api.Value, area bool) api.Value, see func(v api.Value)) (failed api.Value) {
	each(l, func(v api.Value, area bool) {
		v = turn(v, area)
		switch {
		case v.K == api.Blank:
		case v.K != api.Error:
			see(v)
		case failed.K == api.Blank:
			failed = v
		}
	})
	return failed
}

// number is a value as a number, a Blank if it is passed over.
func number(v api.Value, area bool) api.Value {
	if !area {
		return value.ToNum(v)
	}
	if v.K == api.Bool || v.K == api.Text {
		return api.Value{}
	}
	return v
}

// truth is a value as a truth, a Blank if it is passed over.
func truth(v api.Value, area bool) api.Value {
	if area && (v.K == api.Blank || v.K == api.Text) {
		return api.Value{}
	}
	return value.ToBool(v)
}

// text is a value as a text; none is passed over.
func text(v api.Value, _ bool) api.Value { return value.ToText(v) }
