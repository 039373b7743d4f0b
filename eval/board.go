package eval

import (
	"cmp"
	"slices"

	"cadastre/api"
	"cadastre/coord"
	"cadastre/value"
)

// Board is a value for each place of the sheet.
type Board struct {
	// A place that is not here is Blank: none is kept as such, and none that the sheet has not.
	values map[api.Place]api.Value
}

// New is a board all of whose places are Blank.
func New() *Board {
	return &Board{}
}

// Put gives a place a value.
func (b *Board) Put(row, col int, v api.Value) {
	if !coord.In(row, col) {
		return
	}
	place, v := api.Place{Row: row, Col: col}, value.Normal(v)
	if v.K == api.Blank {
		delete(b.values, place)
		return
	}
	if b.values == nil {
		b.values = map[api.Place]api.Value{}
	}
	b.values[place] = v
}

// Get is the value that a place has.
func (b *Board) Get(row, col int) api.Value {
	return b.values[api.Place{Row: row, Col: col}]
}

// All are the values that are not Blank, row by row, in each from left to right.
func (b *Board) All() []api.Known {
	list := make([]api.Known, 0, len(b.values))
	for place, v := range b.values {
		list = append(list, api.Known{Row: place.Row, Col: place.Col, V: v})
	}
	slices.SortFunc(list, func(a, b api.Known) int {
		return cmp.Or(cmp.Compare(a.Row, b.Row), cmp.Compare(a.Col, b.Col))
	})
	return list
}

// area is the values of all places of a range, row by row.
func (b *Board) area(from, to api.Ref) api.Arg {
	rect := coord.Rect(from, to)
	list := make([]api.Value, 0, coord.Area(rect))
	for row := rect.Row; row <= rect.Row2; row++ {
		for col := rect.Col; col <= rect.Col2; col++ {
			list = append(list, b.Get(row, col))
		}
	}
	return api.Arg{Area: true, Rows: rect.Row2 - rect.Row + 1, Cols: rect.Col2 - rect.Col + 1, L: list}
}
