package funcs

import (
	"reflect"
	"slices"
	"strings"
	"testing"

	"cadastre/api"
	"cadastre/value"
)

// P14.2: IF whose first argument is an error, whatever the others are.
func TestIfOfError(t *testing.T) {
	for e := 1; e <= 5; e++ {
		failed := value.Err(e)
		for _, b := range every() {
			others := []api.Arg{alone(b), with(b), plain("#REF!"), plain("1")}
			for _, x := range others {
				if got := Call("IF", []api.Arg{alone(failed), x}); got != failed {
					t.Fatalf("IF of %v and %s: %v", failed, brief(x), got)
				}
				for _, y := range others {
					if got := Call("IF", []api.Arg{alone(failed), x, y}); got != failed {
						t.Fatalf("IF of %v, %s and %s: %v", failed, brief(x), brief(y), got)
					}
				}
			}
		}
	}
}

// P14.2: IFERROR is an error just if both are, and then the last one.
func TestIfError(t *testing.T) {
	for _, a := range every() {
		for _, b := range every() {
			both := value.Normal(a).K == api.Error && value.Normal(b).K == api.Error
			got := Call("IFERROR", []api.Arg{alone(a), alone(b)})
			if (got.K == api.Error) != both || both && got != value.Normal(b) {
				t.Fatalf("IFERROR of %s and %s: %s", brief(a), brief(b), brief(got))
			}
		}
	}
}

// P14.3: LEFT of all values is the beginning of their text, and as long as it says, or all.
func TestBeginning(t *testing.T) {
	counts := []int64{0, 1, 2, 3, 4, 5, 10, 20, 299, 300, 301, 922337203685477}
	for _, v := range every() {
		whole := value.ToText(v)
		if whole.K == api.Error {
			continue
		}
		for _, count := range counts {
			for _, more := range []int64{0, 1, 5000, 5807} {
				got := Call("LEFT", []api.Arg{alone(v), alone(value.Num(count*10000 + more))})
				long := min(count, int64(len(whole.S)))
				if got.K != api.Text || !strings.HasPrefix(whole.S, got.S) || int64(len(got.S)) != long {
					t.Fatalf("LEFT of %s and %d: %s", brief(v), count, brief(got))
				}
				if length := Call("LEN", []api.Arg{alone(got)}); length != value.Num(long*10000) {
					t.Fatalf("LEN of %s: %v", brief(got), length)
				}
			}
		}
	}
}

// P14.4: ROUND to 0 digits and FLOOR of numbers of all sizes.
func TestWhole(t *testing.T) {
	c := byChance(2)
	list := numbers()
	for range 100000 {
		list = append(list, c.number())
	}
	for n := int64(-30000); n <= 30000; n++ {
		list = append(list, n)
	}
	for _, n := range list {
		a := alone(value.Num(n))
		rounded, floor := Call("ROUND", []api.Arg{a, plain("0")}), Call("FLOOR", []api.Arg{a})
		if !near(rounded, n, 5000) {
			t.Fatalf("ROUND of %d to 0 digits: %v", n, rounded)
		}
		if !near(floor, n, 9999) || floor.K == api.Number && floor.N > n {
			t.Fatalf("FLOOR of %d: %v", n, floor)
		}
	}
}

// near tells whether a value is a whole number that differs from n by so much at most; at the ends of the numbers there may be none.
func near(v api.Value, n, most int64) bool {
	if v == value.Err(api.ENum) {
		return n < -api.Most+10000 || n > api.Most-10000
	}
	// Both are near one another, if the promise holds: the difference wraps round only where it is far beyond.
	apart := v.N - n
	return v.K == api.Number && v.N%10000 == 0 && -most <= apart && apart <= most
}

// Arguments are not changed, their spare room included.
func TestLeavesArguments(t *testing.T) {
	c, all := byChance(3), every()
	for range 20000 {
		name, l := c.roomy(all)
		kept := laidOpen(l)
		Call(name, l)
		if !reflect.DeepEqual(laidOpen(l), kept) {
			t.Fatalf("%s changed its arguments", name)
		}
	}
}

// roomy makes a call whose arguments have others in their spare room, and lists that have values there.
func (c chance) roomy(from []api.Value) (string, []api.Arg) {
	name, l := c.call(from)
	l = append(l, plain("1"), area("2", "'3"))
	for i := range l {
		l[i].L = l[i].L[:c.IntN(len(l[i].L)+1)]
	}
	return name, l[:len(l)-2]
}

// open is an argument, and all that its list has room for.
type open struct {
	api.Arg
	room []api.Value
}

// laidOpen is copies of all arguments that a list has room for.
func laidOpen(l []api.Arg) []open {
	var out []open
	for _, a := range l[:cap(l)] {
		room := slices.Clone(a.L[:cap(a.L)])
		a.L = slices.Clone(a.L)
		out = append(out, open{a, room})
	}
	return out
}

// What is in the spare room of a list plays no part.
func TestSpareRoom(t *testing.T) {
	a, l := area("1", "2", "3"), []api.Arg{plain("FALSE"), plain("1"), plain("2")}
	a.L = a.L[:2]
	known(t, "#REF!", "INDEX", a, plain("3"))
	known(t, "FALSE", "IF", l[:2]...)
	known(t, "'a", "LEFT", []api.Arg{plain("'abc"), plain("2")}[:1]...)
	known(t, "1", "INDEX", []api.Arg{grid(1, 2, "1", "2"), plain("1"), plain("2")}[:2]...)
	empty := plain("5")
	empty.L = empty.L[:0]
	known(t, "0", "ABS", empty)
}

// Arguments are not kept: an answer hangs on those of its own call alone, and stays when they are changed.
func TestKeepsNothing(t *testing.T) {
	c, all := byChance(4), every()
	for range 20000 {
		name, l := c.call(all)
		other, apart := c.call(all)
		again := slices.Clone(l)
		for i := range l {
			again[i].L = slices.Clone(l[i].L)
		}
		first := Call(name, l)
		Call(other, apart)
		for i := range l {
			clear(l[i].L)
			l[i].Area = !l[i].Area
		}
		if second := Call(name, again); second != first {
			t.Fatalf("%s of %s: %s, then %s", name, brief(again), brief(first), brief(second))
		}
	}
}
