package region

import (
	"reflect"
	"slices"
	"testing"

	"cadastre/api"
	"cadastre/rel"
)

// P20.1: sheets made by chance have the runs that are read off their papers.
func TestFindByChance(t *testing.T) {
	c := byChance(1)
	found := 0
	for range 1500 {
		found += len(holdFind(t, c.sheet(t)))
	}
	if found < 3000 {
		t.Errorf("only %d runs", found)
	}
}

// P20.3: no place is in two runs; of neighbours in one column that are Alike both are in one, if one is in any.
func TestApart(t *testing.T) {
	c := byChance(2)
	for range 1000 {
		g := c.sheet(t)
		l := g.Cells()
		runs := Find(l)
		in := map[api.Place][]api.Run{}
		for _, r := range runs {
			if r.To-r.From < 3 {
				t.Fatalf("%v is no run", r)
			}
			for row := r.From; row <= r.To; row++ {
				in[at(row, r.Col)] = append(in[at(row, r.Col)], r)
			}
		}
		for p, those := range in {
			if got, is := Of(runs, p.Row, p.Col); len(those) != 1 || !is || got != those[0] {
				t.Fatalf("%v is in %v: %s", p, those, texts(l))
			}
		}
		for _, b := range l {
			a, is := g.Cell(b.Row-1, b.Col)
			if !is || !a.Is || !b.Is {
				continue
			}
			above, below := in[at(a.Row, a.Col)], in[at(b.Row, b.Col)]
			if alike := rel.Alike(a.X, a.Row, a.Col, b.X, b.Row, b.Col); alike && !slices.Equal(above, below) || !alike && len(above) > 0 && slices.Equal(above, below) {
				t.Fatalf("alike %v: %v, %v of %s", alike, above, below, texts(l))
			}
		}
	}
}

// P20.4: each formula of a run is the one above, filled one row down; what is ahead of a run, and behind it, is not so.
func TestFilled(t *testing.T) {
	c := byChance(3)
	for range 1000 {
		g := c.sheet(t)
		filled := func(row, col int) bool {
			a, is := g.Cell(row-1, col)
			b, also := g.Cell(row, col)
			return is && also && a.Is && b.Is && b.Text == "="+textOf(t, rel.Fill(a.X, 1, 0))
		}
		for _, r := range Find(g.Cells()) {
			for row := r.From + 1; row <= r.To; row++ {
				if !filled(row, r.Col) {
					t.Fatalf("%v, row %d: %s", r, row, texts(g.Cells()))
				}
			}
			ahead, _ := g.Cell(r.From, r.Col)
			if ahead.Text != "=#REF!" && filled(r.From, r.Col) || filled(r.To+1, r.Col) && !lost(t, g.Cells(), r) {
				t.Fatalf("%v could be longer: %s", r, texts(g.Cells()))
			}
		}
	}
}

// lost tells whether what is below a run is filled down so that a reference left the sheet.
func lost(t *testing.T, l []api.Cell, r api.Run) bool {
	t.Helper()
	i := slices.IndexFunc(l, func(c api.Cell) bool { return c.Row == r.To && c.Col == r.Col })
	j := slices.IndexFunc(l, func(c api.Cell) bool { return c.Row == r.To+1 && c.Col == r.Col })
	return seen(t, l[i].Text[1:], r.To, r.Col) != seen(t, l[j].Text[1:], r.To+1, r.Col)
}

// P20.5: Rest of Rest is it, of runs that Find tells.
func TestRestOfRest(t *testing.T) {
	c := byChance(4)
	for range 300 {
		runs := Find(c.sheet(t).Cells())
		for range 20 {
			places := c.places(8)
			if r, is := Of(runs, of(c, numbers()), 1+c.IntN(6)); is {
				places = append(places, at(r.From+c.IntN(r.To-r.From+1), r.Col))
			}
			got := holdRest(t, runs, places)
			if again := Rest(runs, got); !slices.Equal(again, got) {
				t.Fatalf("Rest of %v: %v, then %v", places, got, again)
			}
			for _, p := range places {
				if onSheet(p.Row, p.Col) && !slices.Contains(got, p) {
					t.Fatalf("Rest of %v is without %v", places, p)
				}
			}
		}
	}
}

// P20.1, P20.2: runs and places made by chance, in one another and off the sheet too.
func TestRunsByChance(t *testing.T) {
	c := byChance(5)
	for range 1500 {
		runs, places := c.runs(), c.places(10)
		holdRest(t, runs, places)
		for _, p := range places {
			holdOf(t, runs, p.Row, p.Col)
		}
	}
}

// P20.2: Rest of two lists together has what Rest of each has, however they are ordered.
func TestRestTogether(t *testing.T) {
	c := byChance(6)
	for range 500 {
		runs, a, b := c.runs(), c.places(6), c.places(6)
		want := below(nil, slices.Concat(Rest(runs, a), Rest(runs, b)))
		if got := Rest(runs, slices.Concat(b, a, b)); !slices.Equal(got, want) {
			t.Fatalf("Rest of %v, %v and %v: %v, not %v", runs, a, b, got, want)
		}
	}
}

// scribble writes over a list and its spare room.
func scribble[T any](list []T, with T) {
	list = list[:cap(list)]
	for i := range list {
		list[i] = with
	}
}

// copied is cells in new memory, as deep as they go.
func copied(l []api.Cell) []api.Cell {
	out := slices.Clone(l)
	for i := range out {
		out[i].X = rel.Form(out[i].X, 0, 0)
	}
	return out
}

// What is handed in is not changed, its spare room included, which plays no part.
func TestUnchanged(t *testing.T) {
	c := byChance(7)
	for range 200 {
		whole := c.sheet(t).Cells()
		kept := copied(whole)
		for _, size := range []int{0, len(whole) / 2, len(whole)} {
			want := written(t, kept[:size]).runs()
			if got := Find(whole[:size]); !slices.Equal(got, want) || !reflect.DeepEqual(whole, kept) {
				t.Fatalf("Find of %d cells: %v, not %v; or the cells are changed", size, got, want)
			}
		}
		runs, places := append(c.runs(), run(2, 1, 9), run(2, 1, 5)), append(c.places(8), at(1, 2), at(0, 0), at(5, 2))
		keptRuns, keptPlaces := slices.Clone(runs), slices.Clone(places)
		holdRest(t, runs[:len(runs)-1], places[:len(places)-2])
		Of(runs[:len(runs)-1], 3, 2)
		if !slices.Equal(runs, keptRuns) || !slices.Equal(places, keptPlaces) {
			t.Fatalf("%v, %v were made %v, %v", keptRuns, keptPlaces, runs, places)
		}
		values := []api.Value{{N: 1}, {K: api.Number, N: 1, S: "x"}, {K: api.Bool, N: 7}, {K: api.Text, E: 2}}
		keptValues := slices.Clone(values)
		if Kind(values[:2]) != 1 || Kind(values[:1]) != 0 || !slices.Equal(values, keptValues) {
			t.Fatalf("Kind, or it changed the values: %v", values)
		}
	}
}

// What was answered is the caller's own: writing over an answer changes no argument and no other answer, writing over an argument no answer.
func TestOwn(t *testing.T) {
	c := byChance(8)
	for range 200 {
		l := c.sheet(t).Cells()
		kept := copied(l)
		first, second := Find(l), Find(l)
		want := slices.Clone(first)
		scribble(first, run(9, 9, 9))
		if !slices.Equal(second, want) || !reflect.DeepEqual(l, kept) || !slices.Equal(Find(l), want) {
			t.Fatalf("an answer of Find is shared")
		}
		scribble(l, api.Cell{})
		if !slices.Equal(second, want) {
			t.Fatalf("an answer of Find is shared with the cells")
		}
		runs, places := c.runs(), c.places(8)
		keptRuns, keptPlaces := slices.Clone(runs), slices.Clone(places)
		rest, rest2 := Rest(runs, places), Rest(runs, places)
		wanted := slices.Clone(rest)
		scribble(rest, at(9, 9))
		if !slices.Equal(rest2, wanted) || !slices.Equal(runs, keptRuns) || !slices.Equal(places, keptPlaces) {
			t.Fatalf("an answer of Rest is shared")
		}
		scribble(runs, run(9, 9, 9))
		scribble(places, at(9, 9))
		if !slices.Equal(rest2, wanted) {
			t.Fatalf("an answer of Rest is shared with an argument")
		}
	}
	// Rest of what is in order already is new memory, too.
	places := []api.Place{at(1, 1), at(2, 1)}
	got := Rest(nil, places)
	scribble(got, at(9, 9))
	if !slices.Equal(places, []api.Place{at(1, 1), at(2, 1)}) {
		t.Errorf("Rest shares with its places: %v", places)
	}
}

// What is answered hangs on the arguments alone: asked again, with other things asked between, it is the same.
func TestAskedAgain(t *testing.T) {
	c := byChance(9)
	for range 50 {
		l := c.sheet(t).Cells()
		runs, places := Find(l), c.places(20)
		rest := Rest(runs, places)
		for range 5 {
			other := c.sheet(t).Cells()
			Rest(Find(other), c.places(5))
			if !slices.Equal(Find(l), runs) || !slices.Equal(Rest(runs, places), rest) {
				t.Fatal("asked again, other answers")
			}
		}
	}
}
