package gates_test

import (
	"iter"
	"math"
	"math/rand"
	"reflect"
	"slices"
	"sync"
	"testing"

	"spiritlevel/api"
	"spiritlevel/gates"
)

// smallCircuits yields circuits with a few variables and numbers around their literals, valid or not.
func smallCircuits() iter.Seq[api.Circuit] {
	return func(yield func(api.Circuit) bool) {
		r := rand.New(rand.NewSource(2))
		for range 60000 {
			c := api.Circuit{Inputs: r.Intn(3), Latches: make([]api.Latch, r.Intn(2)), Ands: make([]api.And, r.Intn(3))}
			c.Bads, c.Constraints = make([]int, r.Intn(2)), make([]int, r.Intn(2))
			end := 2 * (c.Inputs + len(c.Latches) + len(c.Ands) + 1)
			number := func() int { return r.Intn(end+2) - 1 }
			for i := range c.Latches {
				c.Latches[i] = api.Latch{Next: number(), Reset: r.Intn(5) - 1}
			}
			for i := range c.Ands {
				a, b := number(), number()
				if r.Intn(4) > 0 {
					a, b = max(a, b), min(a, b)
				}
				c.Ands[i] = api.And{A: a, B: b}
			}
			for i := range c.Bads {
				c.Bads[i] = number()
			}
			for i := range c.Constraints {
				c.Constraints[i] = number()
			}
			if !yield(c) {
				return
			}
		}
	}
}

// validCircuits yields valid circuits of many sizes, with gates of near and of far parts.
func validCircuits() iter.Seq[api.Circuit] {
	return func(yield func(api.Circuit) bool) {
		r := rand.New(rand.NewSource(3))
		for round := range 300 {
			size := 1 + round/10
			c := api.Circuit{Inputs: r.Intn(size), Latches: make([]api.Latch, r.Intn(size))}
			for range r.Intn(3 * size) {
				own := 2 * (1 + c.Inputs + len(c.Latches) + len(c.Ands))
				a, b := r.Intn(own), r.Intn(own)
				if r.Intn(2) == 0 {
					a = max(a, own-1-r.Intn(4))
				}
				c.Ands = append(c.Ands, api.And{A: max(a, b), B: min(a, b)})
			}
			end := 2 * (c.Inputs + len(c.Latches) + len(c.Ands) + 1)
			for i := range c.Latches {
				c.Latches[i] = api.Latch{Next: r.Intn(end), Reset: r.Intn(3)}
			}
			for range r.Intn(3) {
				c.Bads = append(c.Bads, r.Intn(end))
				c.Constraints = append(c.Constraints, r.Intn(end))
			}
			if !yield(c) {
				return
			}
		}
	}
}

func lastOf(c api.Circuit) int { return c.Inputs + len(c.Latches) + len(c.Ands) }

func firstGateOf(c api.Circuit) int { return c.Inputs + len(c.Latches) + 1 }

func coneOf(t *testing.T, c api.Circuit, l int) []int {
	t.Helper()
	cone, e := gates.Cone(c, l)
	if e != api.OK {
		t.Fatalf("Cone(%+v, %d): error %d", c, l, e)
	}
	return cone
}

// P2.2

func TestKindExamples(t *testing.T) {
	want := [][2]int{{0, 0}, {1, 0}, {1, 1}, {2, 0}, {3, 0}, {3, 1}}
	for v, x := range want {
		if kind, index, e := gates.Kind(example(), v); kind != x[0] || index != x[1] || e != api.OK {
			t.Errorf("Kind(%d) = %d, %d, %d; want %v", v, kind, index, e, x)
		}
	}
}

func TestKindOfAll(t *testing.T) {
	circuits := []api.Circuit{{}, {Inputs: 2}, {Inputs: 1000}, {Latches: make([]api.Latch, 2)}, {Ands: make([]api.And, 2)}, {Inputs: 1, Ands: make([]api.And, 1)}, full()}
	for _, c := range slices.AppendSeq(circuits, validCircuits()) {
		want := [][2]int{{0, 0}}
		for kind, n := range []int{c.Inputs, len(c.Latches), len(c.Ands)} {
			for i := range n {
				want = append(want, [2]int{kind + 1, i})
			}
		}
		for v, x := range want {
			if kind, index, e := gates.Kind(c, v); kind != x[0] || index != x[1] || e != api.OK {
				t.Fatalf("Kind(%+v, %d) = %d, %d, %d; want %v", c, v, kind, index, e, x)
			}
		}
		for _, v := range append([]int{len(want), len(want) + 1, 2 * len(want), 1001}, farOff...) {
			if kind, index, e := gates.Kind(c, v); kind != 0 || index != 0 || e != api.ErrArg {
				t.Fatalf("Kind(%+v, %d) = %d, %d, %d; want ErrArg", c, v, kind, index, e)
			}
		}
	}
}

// P2.3

func TestConeExamples(t *testing.T) {
	for v, want := range [][]int{{}, {1}, {2}, {3}, {1, 2, 4}, {1, 2, 3, 4, 5}} {
		for _, l := range []int{2 * v, 2*v + 1} {
			if cone := coneOf(t, example(), l); !slices.Equal(cone, want) {
				t.Errorf("Cone(%d) = %v; want %v", l, cone, want)
			}
		}
	}
}

// A latch is in a cone without what it has next; the variable 0 is in none.
func TestConesEndAtLatches(t *testing.T) {
	c := api.Circuit{Inputs: 1, Latches: []api.Latch{{Next: 8}, {Next: 2}}, Ands: []api.And{{A: 4, B: 1}, {A: 8, B: 0}, {A: 1, B: 0}}}
	for v, want := range [][]int{{}, {1}, {2}, {3}, {2, 4}, {2, 4, 5}, {6}} {
		if cone := coneOf(t, c, 2*v); !slices.Equal(cone, want) {
			t.Errorf("Cone(%d) = %v; want %v", 2*v, cone, want)
		}
	}
}

func TestConeArguments(t *testing.T) {
	for _, c := range []api.Circuit{{}, {Inputs: 1}, {Inputs: 1000}, example(), full()} {
		end := 2 * (lastOf(c) + 1)
		for l := range end {
			coneOf(t, c, l)
		}
		for _, l := range append([]int{end, end + 1, end + 2, 2002}, farOff...) {
			if cone, e := gates.Cone(c, l); len(cone) != 0 || e != api.ErrArg {
				t.Errorf("Cone(%d of %d) = %v, %d; want ErrArg", l, end, cone, e)
			}
		}
	}
}

// cones returns the cones of all variables, each from those of its parts.
func cones(c api.Circuit) []map[int]bool {
	all := []map[int]bool{{}}
	for v := 1; v <= lastOf(c); v++ {
		cone := map[int]bool{v: true}
		if v >= firstGateOf(c) {
			g := c.Ands[v-firstGateOf(c)]
			for _, part := range []int{g.A / 2, g.B / 2} {
				for w := range all[part] {
					cone[w] = true
				}
			}
		}
		all = append(all, cone)
	}
	return all
}

func TestConesOfAll(t *testing.T) {
	for _, c := range slices.AppendSeq([]api.Circuit{{}, example(), full()}, validCircuits()) {
		for v, want := range cones(c) {
			cone := coneOf(t, c, 2*v)
			if len(cone) != len(want) || !slices.IsSorted(cone) {
				t.Fatalf("Cone(%+v, %d) = %v; want %v", c, 2*v, cone, want)
			}
			for _, w := range cone {
				if !want[w] {
					t.Fatalf("Cone(%+v, %d) = %v; want %v", c, 2*v, cone, want)
				}
			}
		}
	}
}

func TestDepthExamples(t *testing.T) {
	for _, x := range []struct {
		name string
		c    api.Circuit
		want int
	}{
		{"none", api.Circuit{}, 0},
		{"no gates", api.Circuit{Inputs: 3, Latches: []api.Latch{{Next: 8}}, Bads: []int{8}}, 0},
		{"example", example(), 2},
		{"one gate", api.Circuit{Ands: []api.And{{A: 1, B: 0}}}, 1},
		{"side by side", api.Circuit{Inputs: 1, Ands: []api.And{{A: 2, B: 1}, {A: 2, B: 2}, {A: 3, B: 2}}}, 1},
		{"through the greater part", api.Circuit{Inputs: 1, Ands: []api.And{{A: 2, B: 2}, {A: 4, B: 2}}}, 2},
		{"through the lesser part", api.Circuit{Inputs: 1, Ands: []api.And{{A: 2, B: 2}, {A: 4, B: 4}, {A: 2, B: 2}, {A: 8, B: 6}}}, 3},
		{"through a negation", api.Circuit{Ands: []api.And{{A: 0, B: 0}, {A: 3, B: 0}, {A: 5, B: 3}}}, 3},
		{"the deepest is not the last", api.Circuit{Ands: []api.And{{A: 1, B: 1}, {A: 2, B: 2}, {A: 1, B: 1}}}, 2},
		{"not through a latch", api.Circuit{Latches: []api.Latch{{Next: 4}}, Ands: []api.And{{A: 2, B: 2}}}, 1},
		{"full", full(), 400},
	} {
		if d, e := gates.Depth(x.c); d != x.want || e != api.OK {
			t.Errorf("%s: Depth = %d, %d; want %d", x.name, d, e, x.want)
		}
	}
}

func TestDepthOfAChain(t *testing.T) {
	c := api.Circuit{}
	for i := range mostVars {
		c.Ands = append(c.Ands, api.And{A: 2*i + 1, B: 0})
		if d, e := gates.Depth(c); d != i+1 || e != api.OK {
			t.Fatalf("Depth of %d gates = %d, %d", i+1, d, e)
		}
	}
	if cone := coneOf(t, c, 2001); len(cone) != mostVars || cone[0] != 1 || cone[999] != 1000 {
		t.Fatalf("the cone of the last one has %d variables", len(cone))
	}
}

// longest returns the number of gates of the longest chain that ends at a gate.
func longest(c api.Circuit, i int, known map[int]int) int {
	if d, ok := known[i]; ok {
		return d
	}
	most := 0
	for j := range i {
		l := 2 * (firstGateOf(c) + j)
		for _, part := range []int{c.Ands[i].A, c.Ands[i].B} {
			if part == l || part == l+1 {
				most = max(most, longest(c, j, known))
			}
		}
	}
	known[i] = most + 1
	return most + 1
}

func TestDepthOfAll(t *testing.T) {
	for c := range validCircuits() {
		want, known := 0, map[int]int{}
		for i := range c.Ands {
			want = max(want, longest(c, i, known))
		}
		if d, e := gates.Depth(c); d != want || e != api.OK {
			t.Fatalf("Depth(%+v) = %d, %d; want %d", c, d, e, want)
		}
	}
}

// P2.4

func TestPartsComeBeforeTheirGate(t *testing.T) {
	for c := range validCircuits() {
		for i, g := range c.Ands {
			own := firstGateOf(c) + i
			for _, part := range []int{g.A, g.B} {
				if part/2 >= own || slices.Contains(coneOf(t, c, part), own) {
					t.Fatalf("%+v: the gate %d is in its own part %d", c, own, part)
				}
			}
		}
	}
}

func TestConesOfLiteralsAgree(t *testing.T) {
	for _, c := range slices.AppendSeq([]api.Circuit{example()}, validCircuits()) {
		all := [][]int{}
		for v := range lastOf(c) + 1 {
			cone := coneOf(t, c, 2*v)
			if negated := coneOf(t, c, 2*v+1); !slices.Equal(cone, negated) {
				t.Fatalf("%+v: the cones of %d and its negation are %v and %v", c, 2*v, cone, negated)
			}
			if v > 0 && slices.Max(cone) != v {
				t.Fatalf("%+v: the greatest variable of the cone of %d is in %v", c, 2*v, cone)
			}
			for _, w := range cone {
				if w < v && slices.ContainsFunc(all[w], func(x int) bool { return !slices.Contains(cone, x) }) {
					t.Fatalf("%+v: %d is in the cone %v of %d, and its cone %v is not", c, w, cone, 2*v, all[w])
				}
			}
			all = append(all, cone)
		}
	}
}

// usesVar tells whether a latch, a bad literal or a constraint has the variable; nothing else can have that of the last gate.
func usesVar(c api.Circuit, v int) bool {
	has := func(l int) bool { return l/2 == v }
	return slices.ContainsFunc(c.Latches, func(l api.Latch) bool { return has(l.Next) }) || slices.ContainsFunc(c.Bads, has) || slices.ContainsFunc(c.Constraints, has)
}

func TestWithoutTheLastGate(t *testing.T) {
	valid, invalid := 0, 0
	for c := range validCircuits() {
		if len(c.Ands) == 0 {
			continue
		}
		less := c
		less.Ands = c.Ands[:len(c.Ands)-1]
		want := api.OK
		if usesVar(c, lastOf(c)) {
			want = api.ErrBad
			invalid++
		} else {
			valid++
		}
		checks(t, "a gate less", less, want)
		if want != api.OK {
			continue
		}
		for v := range lastOf(less) + 1 {
			if a, b := coneOf(t, c, 2*v), coneOf(t, less, 2*v); !slices.Equal(a, b) {
				t.Fatalf("%+v: without the last gate the cone of %d is %v; it was %v", c, 2*v, b, a)
			}
		}
	}
	if valid < 10 || invalid < 10 {
		t.Fatalf("%d valid and %d other circuits", valid, invalid)
	}
}

func TestResetsDoNotMatterForCones(t *testing.T) {
	for c := range validCircuits() {
		other := c
		other.Latches = slices.Clone(c.Latches)
		for i := range other.Latches {
			other.Latches[i].Reset = (other.Latches[i].Reset + 1) % 3
		}
		for l := range 2 * (lastOf(c) + 1) {
			if a, b := coneOf(t, c, l), coneOf(t, other, l); !slices.Equal(a, b) {
				t.Fatalf("%+v: with other resets the cone of %d is %v; it was %v", c, l, b, a)
			}
		}
	}
}

// P1: R1 to R7

// roomy returns the list with used memory behind its length.
func roomy[T any](list []T, behind T) []T {
	return append(slices.Clone(list), behind, behind)[:len(list)]
}

func roomyExample() api.Circuit {
	c := example()
	c.Latches = roomy(c.Latches, api.Latch{Next: 77, Reset: 7})
	c.Ands = roomy(c.Ands, api.And{A: 77, B: 78})
	c.Bads, c.Constraints = roomy(c.Bads, 77), roomy(c.Constraints, 77)
	return c
}

// whole returns the circuit with all the memory of its lists.
func whole(c api.Circuit) api.Circuit {
	c.Latches, c.Ands = slices.Clone(c.Latches[:cap(c.Latches)]), slices.Clone(c.Ands[:cap(c.Ands)])
	c.Bads, c.Constraints = slices.Clone(c.Bads[:cap(c.Bads)]), slices.Clone(c.Constraints[:cap(c.Constraints)])
	return c
}

func callAll(c api.Circuit, x int) {
	gates.Check(c)
	gates.Vars(c)
	gates.Kind(c, x)
	gates.Cone(c, x)
	gates.Depth(c)
}

func TestArgumentsAreOnlyRead(t *testing.T) {
	for x := -1; x < 14; x++ {
		for _, spoil := range []func(c *api.Circuit){func(*api.Circuit) {}, func(c *api.Circuit) { c.Ands[1].A = 10 }, func(c *api.Circuit) { c.Bads[0] = -1 }} {
			c := roomyExample()
			spoil(&c)
			before := whole(c)
			callAll(c, x)
			if after := whole(c); !reflect.DeepEqual(before, after) {
				t.Fatalf("with %d the circuit %+v became %+v", x, before, after)
			}
		}
	}
}

func TestConesShareNoMemory(t *testing.T) {
	c := example()
	first := coneOf(t, c, 10)
	second := coneOf(t, c, 10)
	for i := range first {
		first[i] = -7
	}
	first = append(first[:0], -8)
	if third := coneOf(t, c, 10); !slices.Equal(second, []int{1, 2, 3, 4, 5}) || !slices.Equal(third, second) || first[0] != -8 {
		t.Fatalf("after a cone was changed, the others are %v and %v", second, third)
	}
	if !reflect.DeepEqual(c, example()) {
		t.Fatalf("the circuit became %+v", c)
	}
}

func TestNilAndEmptyListsAreEqual(t *testing.T) {
	empty := api.Circuit{Inputs: 2, Latches: []api.Latch{}, Ands: []api.And{}, Bads: []int{}, Constraints: []int{}}
	for _, c := range []api.Circuit{empty, {Inputs: 2}} {
		checks(t, "inputs only", c, api.OK)
		if kind, index, e := gates.Kind(c, 2); kind != 1 || index != 1 || e != api.OK {
			t.Errorf("Kind = %d, %d, %d", kind, index, e)
		}
		if cone := coneOf(t, c, 5); !slices.Equal(cone, []int{2}) {
			t.Errorf("Cone = %v", cone)
		}
		if d, e := gates.Depth(c); d != 0 || e != api.OK {
			t.Errorf("Depth = %d, %d", d, e)
		}
	}
}

func TestNothingPanics(t *testing.T) {
	numbers := append([]int{0, 1, 2, 3, 2000, 2001}, farOff...)
	r := rand.New(rand.NewSource(4))
	pick := func() int { return numbers[r.Intn(len(numbers))] }
	for range 5000 {
		c := api.Circuit{Inputs: pick(), Latches: make([]api.Latch, r.Intn(3)), Ands: make([]api.And, r.Intn(3)), Bads: []int{pick()}, Constraints: []int{pick()}}
		for i := range c.Latches {
			c.Latches[i] = api.Latch{Next: pick(), Reset: pick()}
		}
		for i := range c.Ands {
			c.Ands[i] = api.And{A: pick(), B: pick()}
		}
		callAll(c, pick())
	}
	for _, n := range []int{math.MinInt, math.MaxInt} {
		callAll(api.Circuit{Inputs: n}, n)
	}
}

// Calls at the same time have results of their own.
func TestNothingIsKept(t *testing.T) {
	var group sync.WaitGroup
	for range 4 {
		for c := range validCircuits() {
			group.Add(1)
			go func() {
				defer group.Done()
				last := lastOf(c)
				a, _ := gates.Cone(c, 2*last)
				callAll(example(), 10)
				b, _ := gates.Cone(c, 2*last)
				if !slices.Equal(a, b) {
					t.Errorf("%+v: the cones of the last variable are %v and %v", c, a, b)
				}
			}()
		}
	}
	group.Wait()
}
