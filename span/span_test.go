package span

import (
	"math"
	"math/rand/v2"
	"slices"
	"testing"

	"cadastre/api"
)

const (
	least    = math.MinInt
	greatest = math.MaxInt
)

// list: spans of their ends, two by two.
func list(ends ...int) []api.Span {
	var out []api.Span
	for i := 0; i < len(ends); i += 2 {
		out = append(out, api.Span{From: ends[i], To: ends[i+1]})
	}
	return out
}

// corners: ints at which something may go wrong.
func corners() []int {
	return []int{least, least + 1, least + 2, -1, 0, 1, 2, 3, greatest - 2, greatest - 1, greatest}
}

// ones: all lists of one span between corners, the empty and the reversed ones too.
func ones() [][]api.Span {
	var out [][]api.Span
	for _, from := range corners() {
		for _, to := range corners() {
			out = append(out, list(from, to))
		}
	}
	return out
}

// some: lists of none, one, two and three spans, plain and not.
func some() [][]api.Span {
	out := [][]api.Span{
		nil, {},
		list(0, 0), list(5, 3), list(least, least), list(greatest, greatest), list(greatest, least), list(0, 0, 5, 3, greatest, least),
		list(1, 5), list(3, 5, 1, 3), list(1, 3, 3, 5), list(1, 3, 4, 5), list(1, 3, 2, 5), list(2, 5, 1, 3), list(1, 9, 3, 5), list(3, 5, 1, 9), list(1, 5, 1, 5), list(1, 5, 1, 3), list(1, 3, 1, 5),
		list(7, 9, 4, 6, 1, 3), list(1, 9, 2, 3, 9, 10), list(1, 9, 2, 3, 5, 6), list(1, 3, 9, 8, 3, 3, 5, 7),
		list(least, greatest), list(least, 0, 0, greatest), list(least, 0, 1, greatest), list(0, greatest, least, 2), list(least+1, greatest-1),
		list(least, least+1), list(least+1, least+2), list(greatest-1, greatest), list(greatest-2, greatest-1), list(greatest-1, greatest, least, least+1), list(least, least+1, least+2, least+3),
		list(0, greatest-1, greatest-1, greatest), list(greatest-3, greatest-2, greatest-1, greatest),
	}
	r := rand.New(rand.NewPCG(5, 1))
	for range 60 {
		var l []api.Span
		for range 2 + r.IntN(5) {
			l = append(l, api.Span{From: r.IntN(14) - 7, To: r.IntN(14) - 7})
		}
		out = append(out, l)
	}
	c := corners()
	for range 60 {
		var l []api.Span
		for range 2 + r.IntN(3) {
			l = append(l, api.Span{From: c[r.IntN(len(c))], To: c[r.IntN(len(c))]})
		}
		out = append(out, l)
	}
	return out
}

// twos: all lists of two spans between corners.
func twos(f func(l []api.Span)) {
	all := ones()
	for _, x := range all {
		for _, y := range all {
			f(append(slices.Clone(x), y...))
		}
	}
}

// P5.1: Norm is the plain form of l's numbers.
func TestNormByHand(t *testing.T) {
	for _, x := range []struct{ l, want []api.Span }{
		{nil, nil}, {[]api.Span{}, nil}, {list(0, 0), nil}, {list(5, 3), nil}, {list(greatest, least), nil}, {list(least, least, greatest, greatest), nil},
		{list(1, 2), list(1, 2)},
		{list(3, 5, 1, 3), list(1, 5)}, {list(1, 3, 3, 5), list(1, 5)},
		{list(1, 3, 4, 5), list(1, 3, 4, 5)}, {list(4, 5, 1, 3), list(1, 3, 4, 5)},
		{list(1, 4, 2, 6), list(1, 6)}, {list(2, 6, 1, 4), list(1, 6)},
		{list(1, 9, 3, 5), list(1, 9)}, {list(3, 5, 1, 9), list(1, 9)}, {list(1, 9, 2, 3, 9, 10), list(1, 10)}, {list(1, 9, 2, 3, 5, 6), list(1, 9)},
		{list(1, 5, 1, 5), list(1, 5)}, {list(1, 3, 1, 5), list(1, 5)}, {list(1, 5, 1, 3), list(1, 5)},
		{list(1, 3, 3, 3, 5, 7, 9, 4), list(1, 3, 5, 7)},
		{list(9, 2, 1, 3, 4, 4, 3, 4), list(1, 4)},
		{list(least, greatest), list(least, greatest)}, {list(0, greatest, least, 0), list(least, greatest)}, {list(1, greatest, least, 0), list(least, 0, 1, greatest)},
		{list(greatest-1, greatest, least, least+1), list(least, least+1, greatest-1, greatest)},
	} {
		if got := Norm(x.l); !slices.Equal(got, x.want) {
			t.Errorf("Norm(%v): %v, not %v", x.l, got, x.want)
		}
	}
}

// P5.1: Norm and Count over all lists of two spans between corners, and over others.
func TestNormCountOverAll(t *testing.T) {
	check := func(l []api.Span) {
		if got, want := Norm(l), wantNorm(l); !slices.Equal(got, want) || !isPlain(got) {
			t.Fatalf("Norm(%v): %v, not %v", l, got, want)
		}
		if got, want := Count(l), wantCount(l); got != want {
			t.Fatalf("Count(%v): %v, not %v", l, got, want)
		}
	}
	for _, l := range some() {
		check(l)
	}
	twos(check)
}

// P5.1: Union, Meet, Minus are plain forms of the numbers of either, both, the first alone.
func TestTwoByHand(t *testing.T) {
	for _, x := range []struct{ a, b, union, meet, minus []api.Span }{
		{nil, nil, nil, nil, nil},
		{list(1, 5), nil, list(1, 5), nil, list(1, 5)},
		{nil, list(1, 5), list(1, 5), nil, nil},
		{list(3, 5, 1, 3), list(7, 2), list(1, 5), nil, list(1, 5)},
		{list(1, 5), list(2, 3), list(1, 5), list(2, 3), list(1, 2, 3, 5)},
		{list(1, 5), list(5, 7), list(1, 7), nil, list(1, 5)},
		{list(5, 7), list(1, 5), list(1, 7), nil, list(5, 7)},
		{list(1, 5), list(6, 7), list(1, 5, 6, 7), nil, list(1, 5)},
		{list(1, 5), list(1, 5), list(1, 5), list(1, 5), nil},
		{list(1, 5), list(0, 9), list(0, 9), list(1, 5), nil},
		{list(1, 5), list(1, 3), list(1, 5), list(1, 3), list(3, 5)},
		{list(1, 5), list(3, 5), list(1, 5), list(3, 5), list(1, 3)},
		{list(1, 3, 5, 7, 9, 11), list(2, 10), list(1, 11), list(2, 3, 5, 7, 9, 10), list(1, 2, 10, 11)},
		{list(2, 10), list(9, 11, 1, 3, 5, 7), list(1, 11), list(2, 3, 5, 7, 9, 10), list(3, 5, 7, 9)},
		{list(1, 5, 4, 8), list(2, 3, 3, 6), list(1, 8), list(2, 6), list(1, 2, 6, 8)},
		{list(least, greatest), list(0, 1), list(least, greatest), list(0, 1), list(least, 0, 1, greatest)},
		{list(least, greatest), list(least, least+1), list(least, greatest), list(least, least+1), list(least+1, greatest)},
		{list(least, greatest), list(greatest-1, greatest), list(least, greatest), list(greatest-1, greatest), list(least, greatest-1)},
		{list(0, 1), list(least, greatest), list(least, greatest), list(0, 1), nil},
		{list(least, 0), list(0, greatest), list(least, greatest), nil, list(least, 0)},
	} {
		if got := Union(x.a, x.b); !slices.Equal(got, x.union) {
			t.Errorf("Union(%v, %v): %v, not %v", x.a, x.b, got, x.union)
		}
		if got := Meet(x.a, x.b); !slices.Equal(got, x.meet) {
			t.Errorf("Meet(%v, %v): %v, not %v", x.a, x.b, got, x.meet)
		}
		if got := Minus(x.a, x.b); !slices.Equal(got, x.minus) {
			t.Errorf("Minus(%v, %v): %v, not %v", x.a, x.b, got, x.minus)
		}
	}
}

// holdTwo: P5.1, P5.3, P5.4 and P5.6 of a and b.
func holdTwo(t *testing.T, a, b []api.Span) {
	union, meet, minus := Union(a, b), Meet(a, b), Minus(a, b)
	if want := wantUnion(a, b); !slices.Equal(union, want) {
		t.Fatalf("Union(%v, %v): %v, not %v", a, b, union, want)
	}
	if want := wantMeet(a, b); !slices.Equal(meet, want) {
		t.Fatalf("Meet(%v, %v): %v, not %v", a, b, meet, want)
	}
	if want := wantMinus(a, b); !slices.Equal(minus, want) {
		t.Fatalf("Minus(%v, %v): %v, not %v", a, b, minus, want)
	}
	if !isPlain(union) || !isPlain(meet) || !isPlain(minus) {
		t.Fatalf("not plain, of %v, %v: %v, %v, %v", a, b, union, meet, minus)
	}
	for _, n := range around(ends(a, b)...) {
		if Has(union, n) != (Has(a, n) || Has(b, n)) || Has(meet, n) != (Has(a, n) && Has(b, n)) || Has(minus, n) != (Has(a, n) && !Has(b, n)) {
			t.Fatalf("%d is not in as it should be: of %v, %v: %v, %v, %v", n, a, b, union, meet, minus)
		}
	}
	if !slices.Equal(Union(b, a), union) || !slices.Equal(Meet(b, a), meet) {
		t.Fatalf("Union or Meet of %v, %v hangs on the order", a, b)
	}
	if Count(union)+Count(meet) != Count(a)+Count(b) {
		t.Fatalf("counts of %v, %v: %d and %d, %d and %d", a, b, Count(union), Count(meet), Count(a), Count(b))
	}
}

// P5.1, P5.3, P5.4, P5.6: over all pairs of single spans between corners, and all pairs of other lists.
func TestTwoOverAll(t *testing.T) {
	for _, lists := range [][][]api.Span{ones(), some()} {
		for _, a := range lists {
			for _, b := range lists {
				holdTwo(t, a, b)
			}
		}
	}
}

// P5.1: Has asks for a number of any span, plain list or not.
func TestHas(t *testing.T) {
	for _, x := range []struct {
		l    []api.Span
		n    int
		want bool
	}{
		{nil, 0, false}, {list(0, 0), 0, false}, {list(5, 3), 4, false}, {list(5, 3), 5, false}, {list(5, 3), 3, false}, {list(greatest, least), 0, false},
		{list(1, 3), 0, false}, {list(1, 3), 1, true}, {list(1, 3), 2, true}, {list(1, 3), 3, false},
		{list(7, 9, 1, 3), 1, true}, {list(7, 9, 1, 3), 8, true}, {list(7, 9, 1, 3), 5, false}, {list(1, 9, 3, 5), 8, true}, {list(1, 9, 3, 5), 4, true}, {list(1, 3, 3, 5), 3, true}, {list(5, 3, 2, 7), 4, true},
		{list(least, greatest), least, true}, {list(least, greatest), greatest - 1, true}, {list(least, greatest), greatest, false}, {list(greatest-1, greatest), greatest, false}, {list(least, least+1), least, true}, {list(least+1, greatest), least, false},
	} {
		if got := Has(x.l, x.n); got != x.want {
			t.Errorf("Has(%v, %d): %v", x.l, x.n, got)
		}
	}
	for _, l := range append(some(), ones()...) {
		for _, n := range append(around(ends(l)...), corners()...) {
			if Has(l, n) != in(l, n) {
				t.Fatalf("Has(%v, %d): %v", l, n, Has(l, n))
			}
		}
	}
}

// P5.1: Count counts each number once, beyond the greatest int too.
func TestCountByHand(t *testing.T) {
	for _, x := range []struct {
		l    []api.Span
		want uint64
	}{
		{nil, 0}, {list(5, 3), 0}, {list(greatest, least), 0}, {list(4, 4), 0},
		{list(1, 3), 2}, {list(1, 3, 2, 6), 5}, {list(1, 5, 1, 5), 4}, {list(4, 6, 1, 2), 3}, {list(1, 9, 3, 5), 8}, {list(-3, 3), 6},
		{list(least, greatest), math.MaxUint64}, {list(least, 0, 0, greatest), math.MaxUint64}, {list(least, 0, 1, greatest), math.MaxUint64 - 1}, {list(least, 0), 1 << 63}, {list(0, greatest), 1<<63 - 1}, {list(least, 1), 1<<63 + 1},
	} {
		if got := Count(x.l); got != x.want {
			t.Errorf("Count(%v): %d, not %d", x.l, got, x.want)
		}
	}
}

// P5.2: Opened and Closed at the edges of spans, within them, between them, and at the ends of int; what would become the greatest int is lost.
func TestOpenedClosedByHand(t *testing.T) {
	for _, x := range []struct {
		l              []api.Span
		at             int
		opened, closed []api.Span
	}{
		{nil, 0, nil, nil}, {list(5, 3), 4, nil, nil}, {list(greatest, least), 0, nil, nil},
		{list(1, 5), 0, list(2, 6), list(0, 4)},
		{list(1, 5), 1, list(2, 6), list(1, 4)},
		{list(1, 5), 2, list(1, 6), list(1, 4)},
		{list(1, 5), 3, list(1, 6), list(1, 4)},
		{list(1, 5), 4, list(1, 6), list(1, 4)},
		{list(1, 5), 5, list(1, 5), list(1, 5)},
		{list(1, 5), 6, list(1, 5), list(1, 5)},
		{list(3, 4), 3, list(4, 5), nil},
		{list(3, 5, 1, 3), 3, list(1, 6), list(1, 4)},
		{list(1, 4, 2, 6), 3, list(1, 7), list(1, 5)},
		{list(1, 3, 4, 6), 2, list(1, 4, 5, 7), list(1, 2, 3, 5)},
		{list(1, 3, 4, 6), 3, list(1, 3, 5, 7), list(1, 5)},
		{list(1, 3, 4, 6), 4, list(1, 3, 5, 7), list(1, 3, 4, 5)},
		{list(4, 6, 1, 3), 3, list(1, 3, 5, 7), list(1, 5)},
		{list(1, 3, 5, 7), 3, list(1, 3, 6, 8), list(1, 3, 4, 6)},
		{list(1, 3, 5, 7), 4, list(1, 3, 6, 8), list(1, 3, 4, 6)},
		{list(1, 2, 3, 4, 5, 6), 3, list(1, 2, 4, 5, 6, 7), list(1, 2, 4, 5)},
		{list(1, 3, 3, 4, 4, 6), 3, list(1, 7), list(1, 5)},
		{list(least, least+2), least, list(least+1, least+3), list(least, least+1)},
		{list(least, least+1), least, list(least+1, least+2), nil},
		{list(least+1, least+2), least, list(least+2, least+3), list(least, least+1)},
		{list(least, least+2), least + 1, list(least, least+3), list(least, least+1)},
		{list(least, greatest), least, list(least+1, greatest), list(least, greatest-1)},
		{list(least, greatest), 0, list(least, greatest), list(least, greatest-1)},
		{list(least, greatest), greatest - 1, list(least, greatest), list(least, greatest-1)},
		{list(least, greatest), greatest, list(least, greatest), list(least, greatest)},
		{list(greatest-1, greatest), 0, nil, list(greatest-2, greatest-1)},
		{list(greatest-1, greatest), greatest - 1, nil, nil},
		{list(greatest-1, greatest), greatest, list(greatest-1, greatest), list(greatest-1, greatest)},
		{list(greatest-2, greatest), 0, list(greatest-1, greatest), list(greatest-3, greatest-1)},
		{list(greatest-2, greatest-1), 0, list(greatest-1, greatest), list(greatest-3, greatest-2)},
		{list(1, 3, greatest-1, greatest), 1, list(2, 4), list(1, 2, greatest-2, greatest-1)},
	} {
		if got := Opened(x.l, x.at); !slices.Equal(got, x.opened) {
			t.Errorf("Opened(%v, %d): %v, not %v", x.l, x.at, got, x.opened)
		}
		if got := Closed(x.l, x.at); !slices.Equal(got, x.closed) {
			t.Errorf("Closed(%v, %d): %v, not %v", x.l, x.at, got, x.closed)
		}
	}
}

// holdOne: P5.2 and P5.5 of l at one place.
func holdOne(t *testing.T, l []api.Span, at int) {
	opened, closed := Opened(l, at), Closed(l, at)
	if want := wantOpened(l, at); !slices.Equal(opened, want) || !isPlain(opened) {
		t.Fatalf("Opened(%v, %d): %v, not %v", l, at, opened, want)
	}
	if want := wantClosed(l, at); !slices.Equal(closed, want) || !isPlain(closed) {
		t.Fatalf("Closed(%v, %d): %v, not %v", l, at, closed, want)
	}
	back := Closed(opened, at)
	lost := at < greatest && in(l, greatest-1) // its place would be the greatest int
	want := wantNorm(l)
	if lost {
		want = wantMinus(l, list(greatest-1, greatest))
	}
	if !slices.Equal(back, want) {
		t.Fatalf("Closed of Opened(%v, %d): %v, not %v", l, at, back, want)
	}
}

// P5.2, P5.5: over all lists of two spans between corners, and over others, at all places where something changes.
func TestOpenedClosedOverAll(t *testing.T) {
	places := append(corners(), -2, 4)
	twos(func(l []api.Span) {
		for _, at := range places {
			holdOne(t, l, at)
		}
	})
	for _, l := range some() {
		for _, at := range append(around(ends(l)...), places...) {
			holdOne(t, l, at)
		}
	}
}

// P5.4: Norm of a plain form is that form.
func TestNormOnce(t *testing.T) {
	for _, l := range append(some(), ones()...) {
		once := Norm(l)
		if twice := Norm(once); !slices.Equal(once, twice) {
			t.Fatalf("Norm of %v: %v", once, twice)
		}
	}
}

// P5.5: there and back, by hand: the plain form comes back, and a list that is not plain comes back as its plain form.
func TestThereAndBack(t *testing.T) {
	for _, x := range []struct {
		l    []api.Span
		at   int
		want []api.Span
	}{
		{list(1, 5), 3, list(1, 5)}, {list(1, 3, 4, 6), 3, list(1, 3, 4, 6)}, {list(3, 5, 1, 3), 3, list(1, 5)}, {list(least, 7), least, list(least, 7)}, {list(7, greatest-1), 7, list(7, greatest-1)}, {list(7, greatest), greatest, list(7, greatest)},
		{list(7, greatest), 7, list(7, greatest-1)},
	} {
		if got := Closed(Opened(x.l, x.at), x.at); !slices.Equal(got, x.want) {
			t.Errorf("%v at %d: %v, not %v", x.l, x.at, got, x.want)
		}
	}
}

// roomy: l, with spare room behind it that has something in it.
func roomy(l []api.Span) []api.Span {
	out := append(slices.Clone(l), list(70, 71, 60, 61, 50, 51)...)
	return out[:len(l)]
}

// whole: l with its spare room.
func whole(l []api.Span) []api.Span { return l[:cap(l)] }

// P5.1, P5.2 (Rules, Memory): lists that are handed in are left as they were, their spare room too, and answers share nothing with them or with one another.
func TestMemory(t *testing.T) {
	calls := []func(a, b []api.Span) []api.Span{
		func(a, b []api.Span) []api.Span { return Norm(a) },
		Union, Meet, Minus,
		func(a, b []api.Span) []api.Span { return Opened(a, 3) },
		func(a, b []api.Span) []api.Span { return Opened(a, 100) },
		func(a, b []api.Span) []api.Span { return Closed(a, 3) },
		func(a, b []api.Span) []api.Span { return Closed(a, 100) },
		func(a, b []api.Span) []api.Span { Has(a, 3); Count(a); return nil },
	}
	lists := [][]api.Span{nil, list(1, 5), list(3, 5, 1, 3), list(1, 3, 4, 6), list(9, 8, 4, 6, 1, 3), list(1, 9, 3, 5), list(least, greatest)}
	for i, call := range calls {
		for _, x := range lists {
			for _, y := range lists {
				a, b := roomy(x), roomy(y)
				wasA, wasB := slices.Clone(whole(a)), slices.Clone(whole(b))
				first := call(a, b)
				want := slices.Clone(first)
				second := call(a, b)
				for j := range whole(second) {
					whole(second)[j] = api.Span{From: 40, To: 41}
				}
				if !slices.Equal(whole(a), wasA) || !slices.Equal(whole(b), wasB) {
					t.Fatalf("call %d of %v, %v changes what it is handed, or shares it", i, x, y)
				}
				if !slices.Equal(first, want) {
					t.Fatalf("call %d of %v, %v: two answers share memory", i, x, y)
				}
			}
		}
	}
}

// P5.1: one list may be handed in twice.
func TestSameListTwice(t *testing.T) {
	l := list(4, 6, 1, 3, 2, 4)
	if got := Union(l, l); !slices.Equal(got, list(1, 6)) {
		t.Error("Union", got)
	}
	if got := Meet(l, l); !slices.Equal(got, list(1, 6)) {
		t.Error("Meet", got)
	}
	if got := Minus(l, l); len(got) != 0 {
		t.Error("Minus", got)
	}
}

// P5.1: lists of many spans, in falling order, end soon.
func TestMany(t *testing.T) {
	const many = 100000
	var a, b []api.Span
	for i := many; i > 0; i-- {
		a = append(a, api.Span{From: 4 * i, To: 4*i + 2})
		b = append(b, api.Span{From: 4*i + 1, To: 4*i + 3})
	}
	for i, x := range []struct {
		got   []api.Span
		first api.Span
		each  uint64
	}{
		{Norm(a), api.Span{From: 4, To: 6}, 2},
		{Union(a, b), api.Span{From: 4, To: 7}, 3},
		{Meet(a, b), api.Span{From: 5, To: 6}, 1},
		{Minus(a, b), api.Span{From: 4, To: 5}, 1},
		{Opened(a, 0), api.Span{From: 5, To: 7}, 2},
		{Closed(a, 0), api.Span{From: 3, To: 5}, 2},
	} {
		if len(x.got) != many || x.got[0] != x.first || Count(x.got) != many*x.each {
			t.Errorf("%d: %d spans, the first %v, %d numbers", i, len(x.got), x.got[0], Count(x.got))
		}
	}
}

// The chapter's example.
func TestChapterExample(t *testing.T) {
	if got := Norm(list(3, 5, 1, 3)); !slices.Equal(got, list(1, 5)) {
		t.Error("Norm", got)
	}
	if got := Minus(list(1, 5), list(2, 3)); !slices.Equal(got, list(1, 2, 3, 5)) {
		t.Error("Minus", got)
	}
	if got := Opened(list(1, 5), 3); !slices.Equal(got, list(1, 6)) {
		t.Error("Opened", got)
	}
}
