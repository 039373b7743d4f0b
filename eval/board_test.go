package eval

import (
	"math"
	"slices"
	"testing"

	"cadastre/api"
	"cadastre/value"
)

// noPlaces are places that the sheet has not: 0, below 0, just beside the last, far off.
func noPlaces() []api.Place {
	var out []api.Place
	for _, row := range []int{0, -1, -1000, 1001, 1002, 1 << 16, 1 << 32, 1<<32 + 1, math.MaxInt, math.MinInt} {
		for _, col := range []int{1, 26, 52} {
			out = append(out, api.Place{Row: row, Col: col})
		}
	}
	for _, col := range []int{0, -1, -52, 53, 54, 104, 1 << 8, 1 << 32, 1<<32 + 1, math.MaxInt, math.MinInt} {
		for _, row := range []int{1, 500, 1000, 0, -1, 1001, math.MaxInt, math.MinInt} {
			out = append(out, api.Place{Row: row, Col: col})
		}
	}
	return out
}

// edges are places of the sheet at its edges and within.
func edges() []api.Place {
	var out []api.Place
	for _, row := range []int{1, 2, 51, 52, 53, 54, 500, 999, 1000} {
		for _, col := range []int{1, 2, 26, 27, 51, 52} {
			out = append(out, api.Place{Row: row, Col: col})
		}
	}
	return out
}

// holdBoard holds a board against a paper: All, and Get of what there is.
func holdBoard(t *testing.T, b *Board, p *paper) {
	t.Helper()
	want := p.list()
	if got := b.All(); !slices.Equal(got, want) {
		t.Fatalf("All: %s, not %s", brief(got), brief(want))
	}
	for _, k := range want {
		if got := b.Get(k.Row, k.Col); got != k.V {
			t.Fatalf("Get of %d, %d: %s, not %s", k.Row, k.Col, brief(got), brief(k.V))
		}
	}
}

// P15.1: a new board is Blank everywhere.
func TestNew(t *testing.T) {
	b := New()
	for row := -1; row <= api.MaxRows+1; row++ {
		for col := -1; col <= api.MaxCols+1; col++ {
			if got := b.Get(row, col); got != (api.Value{}) {
				t.Fatalf("Get of %d, %d: %v", row, col, got)
			}
		}
	}
	if l := b.All(); len(l) != 0 {
		t.Errorf("All: %v", l)
	}
}

// P15.1: each place of the sheet has a value of its own.
func TestAllPlaces(t *testing.T) {
	b := New()
	for col := 1; col <= api.MaxCols; col++ {
		for row := api.MaxRows; row >= 1; row-- {
			b.Put(row, col, value.Num(int64(100*row+col)))
		}
	}
	l := b.All()
	if len(l) != api.MaxRows*api.MaxCols {
		t.Fatalf("All has %d", len(l))
	}
	for i, k := range l {
		row, col := i/api.MaxCols+1, i%api.MaxCols+1
		want := api.Known{Row: row, Col: col, V: value.Num(int64(100*row + col))}
		if k != want || b.Get(row, col) != want.V {
			t.Fatalf("at %d: %v, not %v; Get: %v", i, k, want, b.Get(row, col))
		}
	}
	for _, at := range noPlaces() {
		if got := b.Get(at.Row, at.Col); got != (api.Value{}) {
			t.Fatalf("Get of %v: %v", at, got)
		}
	}
}

// P15.1: one value at an edge, and no other.
func TestEdges(t *testing.T) {
	for _, at := range edges() {
		b, p := New(), &paper{}
		b.Put(at.Row, at.Col, value.Text("a"))
		p.write(at.Row, at.Col, value.Text("a"))
		holdBoard(t, b, p)
		for _, other := range edges() {
			if got := b.Get(other.Row, other.Col); got != p.read(other.Row, other.Col) {
				t.Errorf("%v put, Get of %v: %v", at, other, got)
			}
		}
	}
}

// P15.1: nothing is put where there is no place.
func TestNoPlaces(t *testing.T) {
	for _, b := range []*Board{New(), (&paper{1: {1: value.Num(1), 52: value.Num(2)}, 1000: {1: value.Bool(true), 52: value.Text("a")}}).board()} {
		before := b.All()
		for _, at := range noPlaces() {
			for _, v := range []api.Value{value.Num(10000), {}, value.Err(api.ERef), value.Text("")} {
				b.Put(at.Row, at.Col, v)
				if got := b.Get(at.Row, at.Col); got != (api.Value{}) {
					t.Errorf("Get of %v: %v", at, got)
				}
				if l := b.All(); !slices.Equal(l, before) {
					t.Fatalf("All, with a value put at %v: %v", at, l)
				}
			}
		}
	}
}

// P15.1: values of all kinds are kept as Normal has them.
func TestPutNormal(t *testing.T) {
	for _, at := range edges() {
		for _, v := range every() {
			b := New()
			b.Put(at.Row, at.Col, v)
			if got := b.Get(at.Row, at.Col); got != value.Normal(v) {
				t.Fatalf("%s put, Get: %s", brief(v), brief(got))
			}
			want := []api.Known{{Row: at.Row, Col: at.Col, V: value.Normal(v)}}
			if value.Normal(v).K == api.Blank {
				want = nil
			}
			if got := b.All(); !slices.Equal(got, want) {
				t.Fatalf("%s put, All: %s", brief(v), brief(got))
			}
		}
	}
	// By hand, what some of them are.
	b := New()
	for i, v := range []api.Value{
		{K: 7, N: 1}, {K: api.Bool, N: 5, S: "x"}, {K: api.Number, N: least}, {K: api.Text, S: letters(301)}, {K: api.Text, S: letters(300), N: 3}, {K: api.Error, E: 6}, {K: api.Error, E: 5, N: 8}, {K: api.Number, N: -5, E: 1}, {K: api.Text},
	} {
		b.Put(1+i, 1, v)
	}
	for i, want := range []api.Value{
		{}, {K: api.Bool, N: 1}, {K: api.Error, E: api.ENum}, {K: api.Error, E: api.EValue}, {K: api.Text, S: letters(300)}, {K: api.Error, E: api.EValue}, {K: api.Error, E: 5}, {K: api.Number, N: -5}, {K: api.Text},
	} {
		if got := b.Get(1+i, 1); got != want {
			t.Errorf("row %d: %s, not %s", 1+i, brief(got), brief(want))
		}
	}
	if l := b.All(); len(l) != 8 || l[0].Row != 2 || l[7] != (api.Known{Row: 9, Col: 1, V: api.Value{K: api.Text}}) {
		t.Errorf("All: %s", brief(l))
	}
}

// P15.1: what is put later takes the place of what was there, and a Blank leaves none.
func TestPutAgain(t *testing.T) {
	for _, first := range every() {
		for _, second := range every() {
			b, is := New(), value.Normal(second)
			b.Put(3, 2, first)
			b.Put(3, 2, second)
			if got := b.Get(3, 2); got != is {
				t.Fatalf("%s, then %s: %s", brief(first), brief(second), brief(got))
			}
			want := []api.Known{{Row: 3, Col: 2, V: is}}
			if is.K == api.Blank {
				want = nil
			}
			if got := b.All(); !slices.Equal(got, want) {
				t.Fatalf("%s, then %s: All: %s", brief(first), brief(second), brief(got))
			}
		}
	}
	b := New()
	b.Put(1, 1, value.Num(1))
	b.Put(1, 1, api.Value{})
	b.Put(1, 1, api.Value{})
	if l := b.All(); len(l) != 0 || b.Get(1, 1) != (api.Value{}) {
		t.Errorf("All: %v", l)
	}
	b.Put(1, 1, value.Num(2))
	b.Put(1, 1, api.Value{K: 99, N: 3, S: "a", E: 1})
	if l := b.All(); len(l) != 0 {
		t.Errorf("All, with a kind that is none put: %v", l)
	}
}

// P15.1: All is row by row, in whichever order values were put.
func TestAllOrder(t *testing.T) {
	c := byChance(1)
	for range 50 {
		b, p := New(), &paper{}
		list := edges()
		c.Shuffle(len(list), func(i, j int) { list[i], list[j] = list[j], list[i] })
		for i, at := range list[:c.IntN(len(list)+1)] {
			v := value.Num(int64(i))
			b.Put(at.Row, at.Col, v)
			p.write(at.Row, at.Col, v)
		}
		holdBoard(t, b, p)
		if !slices.Equal(b.All(), b.All()) {
			t.Fatal("All, asked twice, differs")
		}
	}
	b := New()
	for _, at := range []api.Place{{Row: 2, Col: 1}, {Row: 1, Col: 52}, {Row: 10, Col: 2}, {Row: 1, Col: 3}, {Row: 10, Col: 1}, {Row: 1, Col: 27}, {Row: 1000, Col: 1}, {Row: 9, Col: 52}} {
		b.Put(at.Row, at.Col, value.Bool(true))
	}
	var got []api.Place
	for _, k := range b.All() {
		got = append(got, api.Place{Row: k.Row, Col: k.Col})
	}
	if want := []api.Place{{Row: 1, Col: 3}, {Row: 1, Col: 27}, {Row: 1, Col: 52}, {Row: 2, Col: 1}, {Row: 9, Col: 52}, {Row: 10, Col: 1}, {Row: 10, Col: 2}, {Row: 1000, Col: 1}}; !slices.Equal(got, want) {
		t.Errorf("All: %v", got)
	}
}

// P15.1: values come and go by chance.
func TestBoardByChance(t *testing.T) {
	c, from := byChance(2), every()
	for range 20 {
		b, p := New(), &paper{}
		for i := range 300 {
			row, col := c.IntN(8)-1, c.IntN(6)-1
			if c.IntN(5) == 0 {
				row, col = 998+c.IntN(5), 50+c.IntN(5)
			}
			v := from[c.IntN(len(from))]
			if c.IntN(3) == 0 {
				v = api.Value{}
			}
			b.Put(row, col, v)
			p.write(row, col, v)
			if got := b.Get(row, col); got != p.read(row, col) {
				t.Fatalf("Get of %d, %d: %s", row, col, brief(got))
			}
			if i%20 == 0 {
				holdBoard(t, b, p)
			}
		}
		holdBoard(t, b, p)
	}
}

// What All answered once stays when the board is changed later, and the board stays when that is written into.
func TestAllIsApart(t *testing.T) {
	b := New()
	b.Put(1, 1, value.Num(1))
	b.Put(2, 2, value.Text("a"))
	first := b.All()
	kept := slices.Clone(first)
	b.Put(1, 1, value.Num(9))
	b.Put(1, 2, value.Num(8))
	b.Put(2, 2, api.Value{})
	if !slices.Equal(first, kept) {
		t.Errorf("All was %v, and is %v", kept, first)
	}
	want := []api.Known{{Row: 1, Col: 1, V: value.Num(9)}, {Row: 1, Col: 2, V: value.Num(8)}}
	second := b.All()
	third := b.All()
	if !slices.Equal(second, want) || !slices.Equal(third, want) {
		t.Fatalf("All: %v", second)
	}
	clear(second[:cap(second)])
	first = append(first, api.Known{Row: 7, Col: 7, V: value.Num(7)})
	clear(first)
	if !slices.Equal(third, want) || !slices.Equal(b.All(), want) || b.Get(1, 1) != value.Num(9) {
		t.Errorf("All, when a list was written into: %v, %v", third, b.All())
	}
}

// Boards know nothing of one another.
func TestBoardsApart(t *testing.T) {
	a, b := New(), New()
	a.Put(1, 1, value.Num(1))
	b.Put(1, 2, value.Num(2))
	if a.Get(1, 2) != (api.Value{}) || b.Get(1, 1) != (api.Value{}) || len(a.All()) != 1 || len(b.All()) != 1 || len(New().All()) != 0 {
		t.Errorf("%v, %v", a.All(), b.All())
	}
}

// What the zero Board answers is open; its calls do not panic.
func TestZeroBoard(t *testing.T) {
	for _, use := range []func(b *Board){
		func(b *Board) { b.Put(1, 1, value.Num(1)) }, func(b *Board) { b.Put(1, 1, api.Value{}) }, func(b *Board) { b.Get(1, 1) }, func(b *Board) { b.All() }, func(b *Board) { Exp(aRef(1, 1), b) },
	} {
		use(&Board{})
	}
}
