package fold

import (
	"reflect"
	"slices"
	"strings"
	"testing"

	"cadastre/api"
	"cadastre/value"
)

// P13.4: values of areas without errors, in other orders, and cut into areas otherwise.
func TestAnyOrder(t *testing.T) {
	c := byChance(4)
	for range 3000 {
		l := c.some(sound(), 12)
		first := c.cut(l)
		for range 5 {
			c.Shuffle(len(l), func(i, j int) { l[i], l[j] = l[j], l[i] })
			second := c.cut(l)
			for _, call := range calls() {
				if call.name == "Concat" {
					continue
				}
				if a, b := call.is(first), call.is(second); a != b {
					t.Fatalf("%s of %s: %v; of %s: %v", call.name, brief(first), a, brief(second), b)
				}
			}
		}
	}
}

// P13.4: all orders of some values whose sums leave 64 bits on their way.
func TestAllOrders(t *testing.T) {
	l := []api.Value{value.Num(api.Most), value.Num(api.Most), value.Num(-api.Most), value.Num(-api.Most), value.Num(-3), value.Bool(true)}
	orders(l, 0, func() {
		if t.Failed() {
			return
		}
		known(t, "-0.0003|5|-922337203685477.5807|922337203685477.5807|-0.0001|TRUE|TRUE|'"+texts(l), with(l...))
	})
}

// orders lays l out in all orders, from a place on.
func orders(l []api.Value, from int, see func()) {
	if from == len(l) {
		see()
	}
	for i := from; i < len(l); i++ {
		l[from], l[i] = l[i], l[from]
		orders(l, from+1, see)
		l[from], l[i] = l[i], l[from]
	}
}

func texts(l []api.Value) string {
	var out strings.Builder
	for _, v := range l {
		out.WriteString(value.Show(v))
	}
	return out.String()
}

// P13.5: two areas, and one that has the values of both; errors too.
func TestParts(t *testing.T) {
	c := byChance(5)
	for range 5000 {
		from := sound()
		if c.IntN(3) == 0 {
			from = every()
		}
		a, b := c.some(from, 6), c.some(from, 6)
		two := []api.Arg{with(a...), with(b...)}
		one := []api.Arg{with(slices.Concat(a, b)...)}
		for _, call := range calls() {
			if x, y := call.is(two), call.is(one); x != y {
				t.Fatalf("%s of %s: %v; of one area: %v", call.name, brief(two), x, y)
			}
		}
		sumsTogether(t, a, b)
	}
}

// sumsTogether: where both areas' sums are numbers, the sum is that of these.
func sumsTogether(t *testing.T, a, b []api.Value) {
	t.Helper()
	x, y := Sum([]api.Arg{with(a...)}), Sum([]api.Arg{with(b...)})
	if x.K != api.Number || y.K != api.Number {
		return
	}
	if got, want := Sum([]api.Arg{with(a...), with(b...)}), value.Arith('+', x, y); got != want {
		t.Fatalf("Sum of %s and %s: %v, not %v", brief(a), brief(b), got, want)
	}
}

// P13.6: the average of numbers of all sizes is a number between the least and the greatest.
func TestBetween(t *testing.T) {
	c := byChance(6)
	for range 20000 {
		var l []api.Value
		for range 1 + c.IntN(9) {
			n := c.Int64N(api.Most) >> c.IntN(63)
			if c.IntN(2) == 0 {
				n = -n
			}
			l = append(l, value.Num(n))
		}
		between(t, l)
	}
	for _, n := range []int64{api.Most, api.Most - 1, 1, 0, -1, 1 - api.Most, -api.Most} {
		for count := range 20 {
			l := slices.Repeat([]api.Value{value.Num(n)}, count+1)
			between(t, l)
			if got := Average([]api.Arg{with(l...)}); got != value.Num(n) {
				t.Errorf("Average of %d times %d: %v", count+1, n, got)
			}
		}
	}
}

func between(t *testing.T, l []api.Value) {
	t.Helper()
	args := []api.Arg{with(l...)}
	low, mean, high := Min(args), Average(args), Max(args)
	if low.K != api.Number || mean.K != api.Number || high.K != api.Number || mean.N < low.N || mean.N > high.N {
		t.Fatalf("of %s: Min %v, Average %v, Max %v", brief(args), low, mean, high)
	}
}

// Arguments are not changed, their spare room included.
func TestLeavesArguments(t *testing.T) {
	c := byChance(7)
	for range 2000 {
		l := roomy(c)
		kept := laidOpen(l)
		for _, call := range calls() {
			call.is(l)
			if !reflect.DeepEqual(laidOpen(l), kept) {
				t.Fatalf("%s changed its arguments", call.name)
			}
		}
	}
}

// roomy makes arguments that have others in their spare room, and lists that have values there.
func roomy(c chance) []api.Arg {
	l := append(c.args(every()), plain("1"), area("2", "'3"))
	for i := range l {
		l[i].L = l[i].L[:c.IntN(len(l[i].L)+1)]
	}
	return l[:c.IntN(len(l)+1)]
}

// open is an argument, and all that its list has room for.
type open struct {
	api.Arg
	room []api.Value
}

// laidOpen is copies of all arguments that a list has room for.
func laidOpen(l []api.Arg) []open {
	var out []open
	for _, a := range l[:cap(l)] {
		room := slices.Clone(a.L[:cap(a.L)])
		a.L = slices.Clone(a.L)
		out = append(out, open{a, room})
	}
	return out
}

// What is in the spare room of a list plays no part.
func TestSpareRoom(t *testing.T) {
	l := []api.Arg{area("1", "2", "#REF!"), plain("#REF!"), plain("#REF!")}
	l[0].L = l[0].L[:2]
	l[1].L = l[1].L[:0]
	known(t, "3|3|0|2|1|FALSE|TRUE|'12", l[:2]...)
}

// Arguments are not kept: an answer hangs on those of its own call alone.
func TestKeepsNothing(t *testing.T) {
	c := byChance(8)
	for range 2000 {
		l, other := c.args(every()), c.args(every())
		for _, call := range calls() {
			first := call.is(l)
			call.is(other)
			again := slices.Clone(l)
			for i := range l {
				again[i].L = slices.Clone(l[i].L)
				clear(l[i].L)
			}
			if second := call.is(again); second != first {
				t.Fatalf("%s of %s: %s, then %s", call.name, brief(again), brief(first), brief(second))
			}
			l = again
		}
	}
}
