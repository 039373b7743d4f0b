package column

import (
	"math"
	"slices"
	"testing"

	"cadastre/api"
	"cadastre/value"
)

// A column can be: as many numbers as errors, at most 1000, each lane a number, or an error from 1 to 5 and 0.
func TestCan(t *testing.T) {
	for _, v := range sound() {
		if !Can(v) {
			t.Errorf("%s can't be", brief(v))
		}
	}
	for _, v := range wrong() {
		if Can(v) {
			t.Errorf("%s can be", brief(v))
		}
	}
}

// The limit of lanes, by hand: 999 and 1000 can be, 1001 can't.
func TestCanLanes(t *testing.T) {
	for n, want := range map[int]bool{0: true, 1: true, 999: true, 1000: true, 1001: false, 1002: false, 2000: false, 65536: false} {
		for _, v := range []api.Vec{{N: make([]int64, n), E: make([]int, n)}, long(n)} {
			if Can(v) != want {
				t.Errorf("%d lanes: %v", n, !want)
			}
		}
	}
}

// One lane of every number with every error: what can be is what the words say; so it is at each place among others.
func TestCanLane(t *testing.T) {
	ns := []int64{0, 1, -1, 5, 10000, mostNumber, mostNumber - 1, -mostNumber, leastNumber, leastNumber + 1, 1 << 32, 1 << 31}
	es := []int{0, 1, 2, 3, 4, 5, 6, 7, 10, -1, -2, 255, 256, 257, math.MaxInt32, math.MinInt32, 1 << 32, 1<<32 + 3, math.MaxInt, math.MinInt}
	for _, n := range ns {
		for _, e := range es {
			want := word(n, e) != "no"
			for at := range 3 {
				v := api.Vec{N: []int64{7, 0, -7}, E: []int{0, 3, 0}}
				v.N[at], v.E[at] = n, e
				if Can(v) != want || Can(api.Vec{N: []int64{n}, E: []int{e}}) != want {
					t.Errorf("the number %d, the error %d, at %d: %v", n, e, at, !want)
				}
			}
		}
	}
}

// One lane that can't be spoils a column of many, wherever it is.
func TestCanAnywhere(t *testing.T) {
	c := byChance(1)
	for range 500 {
		v := c.column(1 + c.IntN(40))
		if !Can(v) || Can(c.spoilt(v)) {
			t.Fatalf("%s, or spoilt", brief(v))
		}
	}
	for _, at := range []int{0, 1, 499, 998, 999} {
		v := long(1000)
		if v.N[at], v.E[at] = leastNumber, 0; Can(v) {
			t.Errorf("the least int64 at %d can be", at)
		}
		if v.N[at], v.E[at] = 0, 6; Can(v) {
			t.Errorf("the error 6 at %d can be", at)
		}
	}
}

// The chapter's example: 1, blank, "x".
func TestExample(t *testing.T) {
	v, plain := Of([]api.Value{value.Num(10000), {}, value.Text("x")}, false)
	if !slices.Equal(v.N, []int64{10000, 0, 0}) || !slices.Equal(v.E, []int{0, 0, api.EValue}) || plain {
		t.Error(v, plain)
	}
}

// P19.1: Of each value by itself, as a number and of an area, by hand.
func TestOfByHand(t *testing.T) {
	for _, x := range []struct {
		v                 api.Value
		n                 int64
		e                 int
		areaN             int64
		areaE             int
		isNumberOrNothing bool
	}{
		{v: api.Value{}, isNumberOrNothing: true},
		{v: value.Num(0), isNumberOrNothing: true},
		{v: value.Num(-12500), n: -12500, areaN: -12500, isNumberOrNothing: true},
		{v: value.Num(mostNumber), n: mostNumber, areaN: mostNumber, isNumberOrNothing: true},
		{v: api.Value{K: 2, N: leastNumber}, e: 4, areaE: 4},
		{v: value.Bool(true), n: 10000},
		{v: value.Bool(false)},
		{v: api.Value{K: 1, N: 7}, n: 10000},
		{v: value.Text("2"), n: 20000},
		{v: value.Text("-1.25"), n: -12500},
		{v: value.Text("0.00005"), n: 1},
		{v: value.Text("x"), e: 2},
		{v: value.Text(""), e: 2},
		{v: value.Text("1."), e: 2},
		{v: value.Text("TRUE"), e: 2},
		{v: value.Text("#DIV/0!"), e: 2},
		{v: value.Text("922337203685477.5808"), e: 4},
		{v: api.Value{K: 3, S: string(make([]byte, 301))}, e: 2, areaE: 2},
		{v: value.Err(1), e: 1, areaE: 1},
		{v: value.Err(2), e: 2, areaE: 2},
		{v: value.Err(3), e: 3, areaE: 3},
		{v: value.Err(4), e: 4, areaE: 4},
		{v: value.Err(5), e: 5, areaE: 5},
		{v: api.Value{K: 4, E: 6}, e: 2, areaE: 2},
		{v: api.Value{K: 4}, e: 2, areaE: 2},
		{v: api.Value{K: 5, N: 3, S: "x", E: 3}, isNumberOrNothing: true},
		{v: api.Value{K: -1, N: leastNumber}, isNumberOrNothing: true},
		{v: api.Value{K: 0, N: 3, S: "x", E: 3}, isNumberOrNothing: true},
		{v: api.Value{K: 2, N: 3, S: "x", E: 3}, n: 3, areaN: 3, isNumberOrNothing: true},
	} {
		isLane(t, x.v, false, x.n, x.e, x.isNumberOrNothing)
		isLane(t, x.v, true, x.areaN, x.areaE, x.isNumberOrNothing)
	}
}

// isLane holds Of one value, and of three such, against a lane.
func isLane(t *testing.T, one api.Value, area bool, n int64, e int, plain bool) {
	t.Helper()
	for _, count := range []int{1, 3} {
		v, is := Of(slices.Repeat([]api.Value{one}, count), area)
		want := api.Vec{N: slices.Repeat([]int64{n}, count), E: slices.Repeat([]int{e}, count)}
		if !alike(v, want) || is != plain {
			t.Errorf("Of %s, %d times, area %v: %v, %v", brief(one), count, area, v, is)
		}
	}
}

// P19.1: Of all values, by themselves and in pairs, against what is told apart from the package.
func TestOf(t *testing.T) {
	all := every()
	for _, area := range []bool{false, true} {
		holdOf(t, nil, area)
		holdOf(t, []api.Value{}, area)
		holdOf(t, all, area)
		for _, a := range all {
			holdOf(t, []api.Value{a}, area)
			for _, b := range all {
				holdOf(t, []api.Value{a, b}, area)
			}
		}
	}
}

// P19.1: one value that is no number nor nothing makes the bool false, wherever it is; the lanes are told all the same.
func TestOfPlain(t *testing.T) {
	for _, one := range every() {
		_, plain := told(one, false)
		for _, at := range []int{0, 1, 500, 999} {
			l := slices.Repeat([]api.Value{value.Num(7), {}}, 500)
			l[at] = one
			for _, area := range []bool{false, true} {
				holdOf(t, l, area)
				if v, is := Of(l, area); is != plain || len(v.N) != 1000 || v.N[(at+2)%1000/2*2] != 7 {
					t.Fatalf("%s at %d: %v", brief(one), at, is)
				}
			}
		}
	}
}

// P19.1: up to 1000 values are told, more are none and false, whatever they are.
func TestOfLanes(t *testing.T) {
	c := byChance(2)
	for _, area := range []bool{false, true} {
		for _, n := range []int{0, 1, 2, 998, 999, 1000} {
			holdOf(t, make([]api.Value, n), area)
			holdOf(t, c.values(every(), n), area)
			if v, plain := Of(make([]api.Value, n), area); !plain || len(v.N) != n || len(v.E) != n {
				t.Errorf("%d blanks: %d, %d, %v", n, len(v.N), len(v.E), plain)
			}
		}
		for _, n := range []int{1001, 1002, 2000, 65536} {
			for _, l := range [][]api.Value{make([]api.Value, n), slices.Repeat([]api.Value{value.Num(3)}, n), c.values(every(), n)} {
				if v, plain := Of(l, area); plain || len(v.N) != 0 || len(v.E) != 0 {
					t.Errorf("%d values: %d, %d, %v", n, len(v.N), len(v.E), plain)
				}
			}
		}
	}
}

// P19.1: Of lists made by chance.
func TestOfByChance(t *testing.T) {
	c := byChance(3)
	for range 2000 {
		from := [][]api.Value{every(), normal(), {{}, value.Num(5), value.Num(-3)}}[c.IntN(3)]
		holdOf(t, c.values(from, c.IntN(12)), c.IntN(2) == 0)
	}
}

// P19.1: Values are the lanes; none of a column that can't be.
func TestValues(t *testing.T) {
	for _, v := range slices.Concat(sound(), wrong()) {
		holdValues(t, v)
	}
	got := Values(api.Vec{N: []int64{10000, 0, -3, 0}, E: []int{0, 3, 0, 0}})
	if want := []api.Value{value.Num(10000), value.Err(3), value.Num(-3), value.Num(0)}; !slices.Equal(got, want) {
		t.Error(got)
	}
	for _, v := range wrong() {
		if l := Values(v); len(l) != 0 {
			t.Errorf("Values of %s: %s", brief(v), brief(l))
		}
	}
	c := byChance(4)
	for range 1000 {
		v := c.column(1 + c.IntN(30))
		holdValues(t, v)
		holdValues(t, c.spoilt(v))
	}
}

// edges are places about a column of so many lanes.
func edges(n int) []int {
	return []int{0, 1, 2, n / 2, n - 2, n - 1, n, n + 1, n + 2, -1, -2, -n, 999, 1000, 1001, math.MaxInt, math.MaxInt - 1, math.MinInt, math.MinInt + 1, math.MaxInt32, math.MinInt32, 1 << 32}
}

// P19.2: Slice at all edges, of columns that can be and that can't.
func TestSlice(t *testing.T) {
	for _, v := range slices.Concat(sound(), wrong()) {
		for _, from := range edges(len(v.N)) {
			for _, to := range edges(len(v.N)) {
				holdSlice(t, v, from, to)
			}
		}
	}
}

// P19.2: Slice, by hand.
func TestSliceByHand(t *testing.T) {
	v := api.Vec{N: []int64{10, 0, 30}, E: []int{0, 4, 0}}
	for _, x := range []struct {
		from, to int
		want     api.Vec
		e        api.Errno
	}{
		{0, 0, api.Vec{}, api.OK}, {0, 1, numbers(10), api.OK}, {0, 2, api.Vec{N: []int64{10, 0}, E: []int{0, 4}}, api.OK}, {0, 3, v, api.OK},
		{1, 1, api.Vec{}, api.OK}, {1, 2, errors(4), api.OK}, {1, 3, api.Vec{N: []int64{0, 30}, E: []int{4, 0}}, api.OK},
		{2, 2, api.Vec{}, api.OK}, {2, 3, numbers(30), api.OK}, {3, 3, api.Vec{}, api.OK},
		{0, 4, api.Vec{}, api.ErrArg}, {3, 4, api.Vec{}, api.ErrArg}, {4, 4, api.Vec{}, api.ErrArg}, {-1, 0, api.Vec{}, api.ErrArg}, {-1, 3, api.Vec{}, api.ErrArg}, {-1, -1, api.Vec{}, api.ErrArg},
		{1, 0, api.Vec{}, api.ErrArg}, {3, 0, api.Vec{}, api.ErrArg}, {3, 2, api.Vec{}, api.ErrArg}, {0, -1, api.Vec{}, api.ErrArg},
		{math.MinInt, math.MaxInt, api.Vec{}, api.ErrArg}, {math.MinInt, math.MinInt, api.Vec{}, api.ErrArg}, {math.MaxInt, math.MaxInt, api.Vec{}, api.ErrArg}, {math.MaxInt, math.MinInt, api.Vec{}, api.ErrArg}, {0, math.MaxInt, api.Vec{}, api.ErrArg}, {math.MinInt, 1, api.Vec{}, api.ErrArg},
	} {
		if got, e := Slice(v, x.from, x.to); !alike(got, x.want) || e != x.e {
			t.Errorf("from %d to %d: %v, %d", x.from, x.to, got, e)
		}
	}
	// Of a column that can't be, nothing, not even lanes that could.
	if got, e := Slice(api.Vec{N: []int64{1, leastNumber}, E: []int{0, 0}}, 0, 1); e != api.ErrArg || len(got.N) != 0 || len(got.E) != 0 {
		t.Error(got, e)
	}
}

// P19.2: spare room beyond a column's lanes is no lane.
func TestSliceSpareRoom(t *testing.T) {
	whole := long(50)
	v := api.Vec{N: whole.N[:20], E: whole.E[:20]}
	for _, to := range []int{21, 30, 50} {
		for _, from := range []int{0, 19, 20, 21} {
			if got, e := Slice(v, from, to); e != api.ErrArg || len(got.N) != 0 || len(got.E) != 0 {
				t.Errorf("from %d to %d: %v, %d", from, to, got, e)
			}
		}
	}
}

// P19.2: Join of all columns with all others, that can be and that can't.
func TestJoin(t *testing.T) {
	all := slices.Concat(sound(), wrong())
	for _, a := range all {
		for _, b := range all {
			holdJoin(t, a, b)
		}
	}
}

// P19.2: Join, by hand: what can't be comes ahead of what is too long.
func TestJoinByHand(t *testing.T) {
	no := numbers(leastNumber)
	for _, x := range []struct {
		a, b, want api.Vec
		e          api.Errno
	}{
		{api.Vec{}, api.Vec{}, api.Vec{}, api.OK},
		{numbers(1), api.Vec{}, numbers(1), api.OK},
		{api.Vec{}, numbers(1), numbers(1), api.OK},
		{numbers(1, 2), numbers(3), numbers(1, 2, 3), api.OK},
		{numbers(3), errors(5, 1), api.Vec{N: []int64{3, 0, 0}, E: []int{0, 5, 1}}, api.OK},
		{long(1000), api.Vec{}, long(1000), api.OK},
		{api.Vec{}, long(1000), long(1000), api.OK},
		{long(1000), numbers(1), api.Vec{}, api.ErrLong},
		{numbers(1), long(1000), api.Vec{}, api.ErrLong},
		{long(1000), long(1000), api.Vec{}, api.ErrLong},
		{no, numbers(1), api.Vec{}, api.ErrArg},
		{numbers(1), no, api.Vec{}, api.ErrArg},
		{no, no, api.Vec{}, api.ErrArg},
		{no, long(1000), api.Vec{}, api.ErrArg},
		{long(1000), no, api.Vec{}, api.ErrArg},
		{long(1001), api.Vec{}, api.Vec{}, api.ErrArg},
		{api.Vec{}, long(1001), api.Vec{}, api.ErrArg},
		{api.Vec{N: []int64{1}}, api.Vec{E: []int{0}}, api.Vec{}, api.ErrArg},
	} {
		if got, e := Join(x.a, x.b); !alike(got, x.want) || e != x.e {
			t.Errorf("%s and %s: %s, %d", brief(x.a), brief(x.b), brief(got), e)
		}
	}
	for _, n := range []int{1, 499, 500, 501, 999} {
		if got, e := Join(long(n), long(1000-n)); e != api.OK || len(got.N) != 1000 || len(got.E) != 1000 {
			t.Errorf("%d and %d: %d", n, 1000-n, e)
		}
		if got, e := Join(long(n), long(1001-n)); e != api.ErrLong || len(got.N) != 0 || len(got.E) != 0 {
			t.Errorf("%d and %d: %d", n, 1001-n, e)
		}
	}
}

// P19.2: Same is of the lanes alone: any other number, error or length is not the same; nil and empty lists are.
func TestSame(t *testing.T) {
	all := slices.Concat(sound(), wrong())
	for _, a := range all {
		for _, b := range all {
			want := brief(a.N) == brief(b.N) && brief(a.E) == brief(b.E) && alike(a, b)
			if Same(a, b) != want || Same(b, a) != want {
				t.Fatalf("%s and %s: %v", brief(a), brief(b), !want)
			}
		}
		if !Same(a, copied(a)) || !Same(a, a) {
			t.Errorf("%s is not the same as itself", brief(a))
		}
	}
	for _, x := range []struct {
		a, b api.Vec
		want bool
	}{
		{api.Vec{}, api.Vec{N: []int64{}, E: []int{}}, true},
		{api.Vec{N: []int64{}}, api.Vec{E: []int{}}, true},
		{numbers(1, 2), numbers(1, 2), true},
		{numbers(1, 2), numbers(2, 1), false},
		{numbers(1, 2), numbers(1, 3), false},
		{numbers(1, 2), numbers(0, 2), false},
		{numbers(1, 2), numbers(1), false},
		{numbers(1), numbers(1, 0), false},
		{api.Vec{}, numbers(0), false},
		{numbers(0), errors(1), false},
		{errors(1), errors(2), false},
		{errors(1, 2), errors(2, 1), false},
		{errors(1, 2), errors(1), false},
		{errors(0, 0), numbers(0, 0), true},
	} {
		if Same(x.a, x.b) != x.want || Same(x.b, x.a) != x.want {
			t.Errorf("%v and %v: %v", x.a, x.b, !x.want)
		}
	}
}

// P19.2: a column that differs from another in one lane, wherever that is, is not the same.
func TestSameAnywhere(t *testing.T) {
	c := byChance(5)
	for range 500 {
		v := c.column(1 + c.IntN(60))
		other := copied(v)
		at := c.IntN(len(v.N))
		if !Same(v, other) {
			t.Fatal(brief(v))
		}
		if v.E[at] == 0 {
			other.N[at] /= 2
			other.N[at]++
		} else {
			other.E[at] = 1 + v.E[at]%5
		}
		if Same(v, other) != alike(v, other) {
			t.Fatalf("%s and %s", brief(v), brief(other))
		}
		room := api.Vec{N: append(copied(v).N, 1, 2, 3)[:len(v.N)], E: append(copied(v).E, 4)[:len(v.E)]}
		if !Same(v, room) {
			t.Fatalf("%s with spare room", brief(v))
		}
	}
}
