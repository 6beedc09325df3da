package values_test

import (
	"iter"
	"math"
	"math/rand"
	"slices"
	"testing"

	"spiritlevel/api"
	"spiritlevel/gates"
	"spiritlevel/lits"
	"spiritlevel/values"
)

// farOff are numbers that are no literals of any circuit.
var farOff = []int{-1, -2, -1000, -2001, 2002, 2003, 4000, math.MinInt32, math.MaxInt32, math.MinInt, math.MinInt + 1, math.MinInt / 2, math.MaxInt / 2, math.MaxInt - 1, math.MaxInt}

// example is the circuit of the chapter's section Examples, with bad literals and constraints.
func example() api.Circuit {
	return api.Circuit{
		Inputs:      2,
		Latches:     []api.Latch{{Next: 10}},
		Ands:        []api.And{{A: 4, B: 2}, {A: 8, B: 7}},
		Bads:        []int{10, 7, 1},
		Constraints: []int{8, 1},
	}
}

// full has 1,000 variables, and 100 bad literals and constraints.
func full() api.Circuit {
	c := api.Circuit{Inputs: 300}
	for i := range 300 {
		c.Latches = append(c.Latches, api.Latch{Next: 2001 - i, Reset: i % 3})
	}
	for i := range 400 {
		c.Ands = append(c.Ands, api.And{A: 2*(601+i) - 1 - i%3, B: 3*i + 1})
	}
	for i := range 100 {
		c.Bads, c.Constraints = append(c.Bads, 2001-7*i), append(c.Constraints, 11*i)
	}
	return c
}

// frame is a circuit with a state and inputs.
type frame struct {
	c             api.Circuit
	state, inputs []bool
}

func bits(r *rand.Rand, n int) []bool {
	list := make([]bool, n)
	for i := range list {
		list[i] = r.Intn(2) == 0
	}
	return list
}

// frames yields valid circuits of many sizes, each with some states and inputs.
func frames() iter.Seq[frame] {
	return func(yield func(frame) bool) {
		r := rand.New(rand.NewSource(11))
		for round := range 400 {
			size := 1 + round/10
			c := api.Circuit{Inputs: r.Intn(size + 1), Latches: make([]api.Latch, r.Intn(size+1))}
			for range r.Intn(3 * size) {
				own := 2 * (1 + c.Inputs + len(c.Latches) + len(c.Ands))
				a, b := r.Intn(own), r.Intn(own)
				if r.Intn(2) == 0 {
					a = max(a, own-1-r.Intn(4))
				}
				c.Ands = append(c.Ands, api.And{A: max(a, b), B: min(a, b)})
			}
			end := 2 * (lastOf(c) + 1)
			for i := range c.Latches {
				c.Latches[i] = api.Latch{Next: r.Intn(end), Reset: r.Intn(3)}
			}
			for range r.Intn(5) {
				c.Bads, c.Constraints = append(c.Bads, r.Intn(end)), append(c.Constraints, r.Intn(end))
			}
			for range 4 {
				if !yield(frame{c, bits(r, len(c.Latches)), bits(r, c.Inputs)}) {
					return
				}
			}
		}
	}
}

// specialFrames are of circuits at the edges of what is valid.
func specialFrames() []frame {
	r := rand.New(rand.NewSource(12))
	var list []frame
	for _, c := range []api.Circuit{{}, {Inputs: 1000}, {Latches: make([]api.Latch, 1000)}, {Ands: make([]api.And, 1000)}, example(), full()} {
		for range 3 {
			list = append(list, frame{c, bits(r, len(c.Latches)), bits(r, c.Inputs)})
		}
	}
	return list
}

func lastOf(c api.Circuit) int { return c.Inputs + len(c.Latches) + len(c.Ands) }

// wantedValue is the definition of the chapter, said once more: the value of a literal, from the parts of its variable, as far as they are gates.
func wantedValue(f frame, l int, known map[int]bool) bool {
	v := l / 2
	value, is := known[v]
	switch {
	case is || v == 0:
	case v <= f.c.Inputs:
		value = f.inputs[v-1]
	case v <= f.c.Inputs+len(f.c.Latches):
		value = f.state[v-f.c.Inputs-1]
	default:
		g := f.c.Ands[v-f.c.Inputs-len(f.c.Latches)-1]
		a, b := wantedValue(f, g.A, known), wantedValue(f, g.B, known)
		value = a && b
	}
	known[v] = value
	return value == (l%2 == 0)
}

func wantedValues(f frame, list []int) []bool {
	known := map[int]bool{}
	var all []bool
	for _, l := range list {
		all = append(all, wantedValue(f, l, known))
	}
	return all
}

func evens(c api.Circuit) []int {
	var all []int
	for v := range lastOf(c) + 1 {
		all = append(all, 2*v)
	}
	return all
}

func nexts(c api.Circuit) []int {
	var all []int
	for _, l := range c.Latches {
		all = append(all, l.Next)
	}
	return all
}

func allOf(t *testing.T, f frame) []bool {
	t.Helper()
	list, e := values.All(f.c, f.state, f.inputs)
	if e != api.OK {
		t.Fatalf("All(%+v): error %d", f, e)
	}
	return list
}

func nextOf(t *testing.T, f frame) []bool {
	t.Helper()
	list, e := values.Next(f.c, f.state, f.inputs)
	if e != api.OK {
		t.Fatalf("Next(%+v): error %d", f, e)
	}
	return list
}

func propsOf(t *testing.T, f frame) (bool, []bool) {
	t.Helper()
	right, list, e := values.Props(f.c, f.state, f.inputs)
	if e != api.OK {
		t.Fatalf("Props(%+v): error %d", f, e)
	}
	return right, list
}

// fails tests that all functions with a circuit return the error, and zero values.
func fails(t *testing.T, name string, f frame, want api.Errno) {
	t.Helper()
	if list, e := values.All(f.c, f.state, f.inputs); len(list) != 0 || e != want {
		t.Errorf("%s: All = %v, %d; want error %d", name, list, e, want)
	}
	if list, e := values.Next(f.c, f.state, f.inputs); len(list) != 0 || e != want {
		t.Errorf("%s: Next = %v, %d; want error %d", name, list, e, want)
	}
	if right, list, e := values.Props(f.c, f.state, f.inputs); right || len(list) != 0 || e != want {
		t.Errorf("%s: Props = %t, %v, %d; want error %d", name, right, list, e, want)
	}
}

// P4.1

const (
	o = false
	x = true
)

func TestTheExample(t *testing.T) {
	for _, y := range []struct {
		state, inputs, all, next []bool
	}{
		{[]bool{o}, []bool{x, x}, []bool{o, x, x, o, x, x}, []bool{x}},
		{[]bool{x}, []bool{x, x}, []bool{o, x, x, x, x, o}, []bool{o}},
		{[]bool{o}, []bool{x, o}, []bool{o, x, o, o, o, o}, []bool{o}},
		{[]bool{o}, []bool{o, x}, []bool{o, o, x, o, o, o}, []bool{o}},
		{[]bool{x}, []bool{o, o}, []bool{o, o, o, x, o, o}, []bool{o}},
	} {
		f := frame{example(), y.state, y.inputs}
		if all := allOf(t, f); !slices.Equal(all, y.all) {
			t.Errorf("%v, %v: All = %v; want %v", y.state, y.inputs, all, y.all)
		}
		if next := nextOf(t, f); !slices.Equal(next, y.next) {
			t.Errorf("%v, %v: Next = %v; want %v", y.state, y.inputs, next, y.next)
		}
	}
}

func TestAllAndNextAtTheEdges(t *testing.T) {
	for _, y := range []struct {
		name      string
		f         frame
		all, next []bool
	}{
		{"nothing", frame{}, []bool{o}, nil},
		{"no latches, no gates", frame{api.Circuit{Inputs: 2}, nil, []bool{x, o}}, []bool{o, x, o}, nil},
		{"no inputs, no gates", frame{api.Circuit{Latches: []api.Latch{{Next: 4}, {Next: 2}}}, []bool{x, o}, nil}, []bool{o, x, o}, []bool{o, x}},
		{"gates only", frame{api.Circuit{Ands: []api.And{{A: 0, B: 0}, {A: 1, B: 0}, {A: 1, B: 1}, {A: 6, B: 3}}}, nil, nil}, []bool{o, o, o, x, x}, nil},
		{"no gates", frame{api.Circuit{Inputs: 1, Latches: []api.Latch{{Next: 2}, {Next: 3}}}, []bool{o, o}, []bool{x}}, []bool{o, x, o, o}, []bool{x, o}},
		{"next of the variable 0", frame{api.Circuit{Latches: []api.Latch{{Next: 0}, {Next: 1}}}, []bool{x, o}, nil}, []bool{o, x, o}, []bool{o, x}},
		{"next of negations", frame{api.Circuit{Latches: []api.Latch{{Next: 3}, {Next: 3}, {Next: 5}}}, []bool{o, x, o}, nil}, []bool{o, o, x, o}, []bool{x, x, o}},
		{"a part twice", frame{api.Circuit{Inputs: 2, Ands: []api.And{{A: 2, B: 2}, {A: 3, B: 3}, {A: 4, B: 4}, {A: 5, B: 5}}}, nil, []bool{x, o}}, []bool{o, x, o, x, o, o, x}, nil},
		{"a part and its negation", frame{api.Circuit{Inputs: 2, Ands: []api.And{{A: 3, B: 2}, {A: 5, B: 4}}}, nil, []bool{x, o}}, []bool{o, x, o, o, o}, nil},
		{"parts of the variable 0", frame{api.Circuit{Inputs: 1, Ands: []api.And{{A: 2, B: 0}, {A: 2, B: 1}, {A: 3, B: 1}}}, nil, []bool{x}}, []bool{o, x, o, x, o}, nil},
	} {
		if all := allOf(t, y.f); !slices.Equal(all, y.all) {
			t.Errorf("%s: All = %v; want %v", y.name, all, y.all)
		}
		if next := nextOf(t, y.f); !slices.Equal(next, y.next) {
			t.Errorf("%s: Next = %v; want %v", y.name, next, y.next)
		}
	}
}

// The gate of an input and a latch, with both signs.
func TestGatesOfAllSigns(t *testing.T) {
	for i := range 16 {
		in, latch, s, u := i&1, i>>1&1, i>>2&1, i>>3
		f := frame{api.Circuit{Inputs: 1, Latches: []api.Latch{{Next: 6}}, Ands: []api.And{{A: 4 + s, B: 2 + u}}}, []bool{latch == 1}, []bool{in == 1}}
		want := latch != s && in != u
		if all := allOf(t, f); !slices.Equal(all, []bool{o, in == 1, latch == 1, want}) {
			t.Errorf("All(%+v) = %v", f, all)
		}
		if next := nextOf(t, f); !slices.Equal(next, []bool{want}) {
			t.Errorf("Next(%+v) = %v", f, next)
		}
	}
}

func TestFramesAreAsDefined(t *testing.T) {
	for _, f := range slices.AppendSeq(specialFrames(), frames()) {
		if all, want := allOf(t, f), wantedValues(f, evens(f.c)); !slices.Equal(all, want) {
			t.Fatalf("All(%+v) = %v; want %v", f, all, want)
		}
		if next, want := nextOf(t, f), wantedValues(f, nexts(f.c)); !slices.Equal(next, want) {
			t.Fatalf("Next(%+v) = %v; want %v", f, next, want)
		}
	}
}

func TestLongChains(t *testing.T) {
	c := api.Circuit{Inputs: 1, Latches: []api.Latch{{Next: 2000}, {Next: 2001}}}
	for i := range 997 {
		c.Ands = append(c.Ands, api.And{A: 2*(3+i) + 1, B: 1})
	}
	// Each gate is the negation of the one before; the first one that of the last latch.
	all := allOf(t, frame{c, []bool{o, x}, []bool{x}})
	for v := 4; v <= 1000; v++ {
		if all[v] != (v%2 == 1) {
			t.Fatalf("the variable %d is %t", v, all[v])
		}
	}
	if next := nextOf(t, frame{c, []bool{o, x}, []bool{o}}); !slices.Equal(next, []bool{o, x}) {
		t.Errorf("Next = %v", next)
	}
	if next := nextOf(t, frame{c, []bool{x, o}, []bool{o}}); !slices.Equal(next, []bool{x, o}) {
		t.Errorf("Next = %v", next)
	}
}

func TestLengths(t *testing.T) {
	for _, c := range []api.Circuit{{}, {Inputs: 1}, {Latches: make([]api.Latch, 1)}, {Ands: make([]api.And, 2)}, {Inputs: 3, Latches: make([]api.Latch, 2)}, example(), full()} {
		for i := -2; i <= 2; i++ {
			for j := -2; j <= 2; j++ {
				state, inputs := max(0, len(c.Latches)+i), max(0, c.Inputs+j)
				f := frame{c, make([]bool, state), make([]bool, inputs)}
				if state != len(c.Latches) || inputs != c.Inputs {
					fails(t, "a wrong length", f, api.ErrArg)
					continue
				}
				allOf(t, f)
				nextOf(t, f)
				propsOf(t, f)
			}
		}
	}
	// Values that are missing in one list are not taken from the other one.
	c := example()
	fails(t, "the state in the inputs", frame{c, nil, []bool{x, x, x}}, api.ErrArg)
	fails(t, "exchanged", frame{c, []bool{x, x}, []bool{x}}, api.ErrArg)
	fails(t, "values of all variables", frame{c, make([]bool, 6), make([]bool, 6)}, api.ErrArg)
	fails(t, "long lists", frame{c, make([]bool, 5000), make([]bool, 5000)}, api.ErrArg)
}

func TestCircuitsThatAreNotValid(t *testing.T) {
	for _, y := range []struct {
		name string
		c    api.Circuit
		want api.Errno
	}{
		{"Inputs below 0", api.Circuit{Inputs: -1}, api.ErrBad},
		{"the least Inputs", api.Circuit{Inputs: math.MinInt, Bads: make([]int, 101)}, api.ErrBad},
		{"too many inputs", api.Circuit{Inputs: 1001}, api.ErrMany},
		{"the greatest Inputs", api.Circuit{Inputs: math.MaxInt, Latches: make([]api.Latch, 1)}, api.ErrMany},
		{"too many latches", api.Circuit{Inputs: 1, Latches: make([]api.Latch, 1000)}, api.ErrMany},
		{"too many gates", api.Circuit{Latches: make([]api.Latch, 1), Ands: make([]api.And, 1000)}, api.ErrMany},
		{"too many bad literals", api.Circuit{Bads: make([]int, 101)}, api.ErrMany},
		{"too many constraints", api.Circuit{Constraints: make([]int, 101)}, api.ErrMany},
		{"too many, and a bad literal", api.Circuit{Inputs: 1001, Bads: []int{-1}}, api.ErrMany},
		{"a bad literal", api.Circuit{Inputs: 1, Bads: []int{4}}, api.ErrBad},
		{"a constraint", api.Circuit{Inputs: 1, Constraints: []int{-1}}, api.ErrBad},
		{"next", api.Circuit{Latches: []api.Latch{{Next: 4}}}, api.ErrBad},
		{"reset", api.Circuit{Latches: []api.Latch{{Reset: 3}}}, api.ErrBad},
		{"the lesser part first", api.Circuit{Inputs: 2, Ands: []api.And{{A: 2, B: 4}}}, api.ErrBad},
		{"a gate of itself", api.Circuit{Inputs: 2, Ands: []api.And{{A: 6, B: 4}}}, api.ErrBad},
		{"a part below 0", api.Circuit{Inputs: 2, Ands: []api.And{{A: 4, B: -1}}}, api.ErrBad},
	} {
		if e := gates.Check(y.c); e != y.want {
			t.Fatalf("%s: gates.Check says %d; want %d", y.name, e, y.want)
		}
		right := frame{y.c, make([]bool, len(y.c.Latches)), make([]bool, min(max(0, y.c.Inputs), 2000))}
		fails(t, y.name, right, y.want)
		fails(t, y.name+", and no lists", frame{y.c, nil, nil}, y.want)
		fails(t, y.name+", and a long state", frame{y.c, make([]bool, len(y.c.Latches)+1), right.inputs}, y.want)
		fails(t, y.name+", and long inputs", frame{y.c, right.state, append(right.inputs, x)}, y.want)
	}
	for f := range frames() {
		for _, l := range append([]int{2 * (lastOf(f.c) + 1)}, farOff...) {
			wrong := f
			wrong.c.Bads = append(slices.Clone(f.c.Bads), l)
			fails(t, "a bad literal", wrong, api.ErrBad)
			wrong.state = append(slices.Clone(f.state), x)
			fails(t, "a bad literal, and a long state", wrong, api.ErrBad)
		}
	}
}

// P4.2

func TestProps(t *testing.T) {
	// The input 2 is true, the latch 4 false, the gate 6 true.
	base := api.Circuit{Inputs: 1, Latches: []api.Latch{{Next: 1}}, Ands: []api.And{{A: 5, B: 2}}}
	for _, y := range []struct {
		bads, constraints []int
		right             bool
		want              []bool
	}{
		{nil, nil, x, nil},
		{[]int{2}, nil, x, []bool{x}},
		{nil, []int{2}, x, nil},
		{nil, []int{3}, o, nil},
		{[]int{0, 1}, []int{1}, x, []bool{o, x}},
		{[]int{1, 0}, []int{0}, o, []bool{x, o}},
		{[]int{2, 3, 4, 5, 6, 7}, []int{6, 5, 2}, x, []bool{x, o, o, x, x, o}},
		{[]int{6}, []int{7, 2, 5}, o, []bool{x}},
		{[]int{6, 6}, []int{2, 7, 5}, o, []bool{x, x}},
		{[]int{4}, []int{2, 5, 7}, o, []bool{o}},
		{[]int{3, 7}, []int{3, 4, 7}, o, []bool{o, o}},
		{[]int{5, 4, 5}, []int{2, 2, 2, 2, 4, 2}, o, []bool{x, o, x}},
	} {
		c := base
		c.Bads, c.Constraints = y.bads, y.constraints
		if right, bads := propsOf(t, frame{c, []bool{o}, []bool{x}}); right != y.right || !slices.Equal(bads, y.want) {
			t.Errorf("bad literals %v, constraints %v: %t, %v; want %t, %v", y.bads, y.constraints, right, bads, y.right, y.want)
		}
	}
	if right, bads := propsOf(t, frame{}); !right || len(bads) != 0 {
		t.Errorf("nothing: %t, %v", right, bads)
	}
	if right, bads := propsOf(t, frame{example(), []bool{o}, []bool{x, x}}); !right || !slices.Equal(bads, []bool{x, x, x}) {
		t.Errorf("the example: %t, %v", right, bads)
	}
	if right, bads := propsOf(t, frame{example(), []bool{x}, []bool{o, x}}); right || !slices.Equal(bads, []bool{o, o, x}) {
		t.Errorf("the example: %t, %v", right, bads)
	}
}

// Among 100 constraints one does not hold.
func TestOneConstraintOfMany(t *testing.T) {
	for i := range 101 {
		c := api.Circuit{Inputs: 2, Constraints: slices.Repeat([]int{2}, 100), Bads: []int{4}}
		if i < 100 {
			c.Constraints[i] = 4
		}
		if right, bads := propsOf(t, frame{c, nil, []bool{x, o}}); right != (i == 100) || !slices.Equal(bads, []bool{o}) {
			t.Errorf("the constraint %d is false: %t, %v", i, right, bads)
		}
		if right, bads := propsOf(t, frame{c, nil, []bool{x, x}}); !right || !slices.Equal(bads, []bool{x}) {
			t.Errorf("all constraints are true: %t, %v", right, bads)
		}
	}
}

func TestPropsAreAsDefined(t *testing.T) {
	hold := 0
	for _, f := range slices.AppendSeq(specialFrames(), frames()) {
		right, bads := propsOf(t, f)
		wanted := !slices.Contains(wantedValues(f, f.c.Constraints), false)
		if want := wantedValues(f, f.c.Bads); right != wanted || !slices.Equal(bads, want) {
			t.Fatalf("Props(%+v) = %t, %v; want %t, %v", f, right, bads, wanted, want)
		}
		if right && len(f.c.Constraints) > 1 {
			hold++
		}
	}
	if hold < 20 {
		t.Fatalf("in %d frames two constraints hold", hold)
	}
}

// P4.3

func TestOf(t *testing.T) {
	for i := range 32 {
		list := []bool{i&1 == 1, i&2 == 2, i&4 == 4, i&8 == 8, i&16 == 16}
		for l := range 10 {
			want := list[l/2]
			if l%2 == 1 {
				want = !want
			}
			if v, e := values.Of(list, l); v != want || e != api.OK {
				t.Errorf("Of(%v, %d) = %t, %d; want %t", list, l, v, e, want)
			}
		}
	}
}

// The first value is read, though the variable 0 is false in each frame.
func TestOfAListWhoseFirstValueIsTrue(t *testing.T) {
	for _, list := range [][]bool{{x}, {x, o}, {x, x}} {
		if v, e := values.Of(list, 0); !v || e != api.OK {
			t.Errorf("Of(%v, 0) = %t, %d", list, v, e)
		}
		if v, e := values.Of(list, 1); v || e != api.OK {
			t.Errorf("Of(%v, 1) = %t, %d", list, v, e)
		}
	}
}

func TestOfArguments(t *testing.T) {
	for _, n := range []int{0, 1, 2, 3, 999, 1000, 1001, 1002, 5000} {
		for _, list := range [][]bool{make([]bool, n), slices.Repeat([]bool{x}, n)} {
			for l := range 2 * min(n, 1001) {
				want := list[l/2] == (l%2 == 0)
				if v, e := values.Of(list, l); v != want || e != api.OK {
					t.Fatalf("Of(%d values, %d) = %t, %d; want %t", n, l, v, e, want)
				}
			}
			// Literals end at 2001, also where there are more values.
			end := 2 * min(n, 1001)
			for _, l := range append([]int{end, end + 1, end + 2, 2 * n, 2*n + 1}, farOff...) {
				if v, e := values.Of(list, l); v || e != api.ErrArg {
					t.Fatalf("Of(%d values, %d) = %t, %d; want ErrArg", n, l, v, e)
				}
			}
		}
	}
	for _, l := range append([]int{0, 1, 2, 2001}, farOff...) {
		for _, list := range [][]bool{nil, {}, make([]bool, 0, 5000)} {
			if v, e := values.Of(list, l); v || e != api.ErrArg {
				t.Errorf("Of(no values, %d) = %t, %d; want ErrArg", l, v, e)
			}
		}
	}
}

// P4.4

// isFrame tells whether the values are as the chapter says of a frame.
func isFrame(f frame, list []bool) bool {
	first := 1 + f.c.Inputs + len(f.c.Latches)
	value := func(l int) bool { return list[l/2] == (l%2 == 0) }
	if list[0] || !slices.Equal(list[1:1+f.c.Inputs], f.inputs) || !slices.Equal(list[1+f.c.Inputs:first], f.state) {
		return false
	}
	for i, g := range f.c.Ands {
		if list[first+i] != (value(g.A) && value(g.B)) {
			return false
		}
	}
	return true
}

func TestTheOnlyValues(t *testing.T) {
	tried := 0
	for f := range frames() {
		all := allOf(t, f)
		if !isFrame(f, all) {
			t.Fatalf("All(%+v) = %v: a gate is not the AND of its parts", f, all)
		}
		if len(all) > 10 {
			continue
		}
		tried++
		for i := range 1 << len(all) {
			var list []bool
			for v := range all {
				list = append(list, i>>v&1 == 1)
			}
			if isFrame(f, list) != slices.Equal(list, all) {
				t.Fatalf("All(%+v) = %v; it may be said of %v, too: %t", f, all, list, isFrame(f, list))
			}
		}
	}
	if tried < 100 {
		t.Fatalf("%d frames have few values", tried)
	}
}

func TestOnlyTheConeMatters(t *testing.T) {
	r := rand.New(rand.NewSource(13))
	for f := range frames() {
		all, l := allOf(t, f), r.Intn(2*(lastOf(f.c)+1))
		cone, e := gates.Cone(f.c, l)
		if e != api.OK {
			t.Fatalf("gates.Cone(%+v, %d): error %d", f.c, l, e)
		}
		other := frame{f.c, slices.Clone(f.state), slices.Clone(f.inputs)}
		for i := range other.inputs {
			other.inputs[i] = f.inputs[i] == slices.Contains(cone, 1+i)
		}
		for i := range other.state {
			other.state[i] = f.state[i] == slices.Contains(cone, 1+f.c.Inputs+i)
		}
		v, _ := values.Of(all, l)
		if w, e := values.Of(allOf(t, other), l); v != w || e != api.OK {
			t.Fatalf("the literal %d is %t in %+v, and %t in %+v, with the cone %v", l, v, f, w, other, cone)
		}
	}
}

func TestResetsAndOrderDoNotMatter(t *testing.T) {
	for f := range frames() {
		other := f
		other.c.Latches, other.c.Bads = slices.Clone(f.c.Latches), slices.Clone(f.c.Bads)
		for i := range other.c.Latches {
			other.c.Latches[i].Reset = (other.c.Latches[i].Reset + 1) % 3
		}
		slices.Reverse(other.c.Bads)
		if a, b := allOf(t, f), allOf(t, other); !slices.Equal(a, b) {
			t.Fatalf("All(%+v) = %v; All(%+v) = %v", f, a, other, b)
		}
		if a, b := nextOf(t, f), nextOf(t, other); !slices.Equal(a, b) {
			t.Fatalf("Next(%+v) = %v; Next(%+v) = %v", f, a, other, b)
		}
		right, bads := propsOf(t, f)
		same, reversed := propsOf(t, other)
		slices.Reverse(reversed)
		if right != same || !slices.Equal(bads, reversed) {
			t.Fatalf("Props(%+v) = %t, %v; Props(%+v) = %t, %v in the other order", f, right, bads, other, same, reversed)
		}
	}
}

func TestNegationsHaveTheOtherValue(t *testing.T) {
	for f := range frames() {
		all := allOf(t, f)
		for l := range 2 * len(all) {
			n, _ := lits.Neg(l)
			v, e := values.Of(all, l)
			if w, d := values.Of(all, n); v == w || e != api.OK || d != api.OK {
				t.Fatalf("Of(%v, %d) = %t, %d; Of(%v, %d) = %t, %d", all, l, v, e, all, n, w, d)
			}
		}
	}
}
