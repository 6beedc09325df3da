package ternary_test

import (
	"iter"
	"math"
	"math/rand"
	"slices"
	"testing"

	"spiritlevel/api"
	"spiritlevel/gates"
	"spiritlevel/ternary"
	"spiritlevel/values"
)

const (
	o = api.TeFalse
	x = api.TeTrue
	q = api.TeAny
)

// truths are the three truth values; wrongs are numbers that are none.
var (
	truths = []uint8{o, x, q}
	wrongs = []uint8{3, 4, 5, 127, 128, 129, 253, 254, 255}
)

// example is the circuit of the chapter's section Examples: a gate of a latch and its negation.
func example() api.Circuit {
	return api.Circuit{Latches: []api.Latch{{Next: 4, Reset: api.ReAny}}, Ands: []api.And{{A: 3, B: 2}}}
}

// full has 1,000 variables, and 100 bad literals and constraints.
func full() api.Circuit {
	c := api.Circuit{Inputs: 300}
	for i := range 300 {
		c.Latches = append(c.Latches, api.Latch{Next: 2001 - i, Reset: i % 3})
	}
	for i := range 400 {
		c.Ands = append(c.Ands, api.And{A: 2*(601+i) - 1 - i%3, B: 3*i + 1})
	}
	for i := range 100 {
		c.Bads, c.Constraints = append(c.Bads, 2001-7*i), append(c.Constraints, 11*i)
	}
	return c
}

// frame is a circuit with a ternary state and ternary inputs.
type frame struct {
	c             api.Circuit
	state, inputs []uint8
}

// drawn returns n truth values; about anys of each four are TeAny.
func drawn(r *rand.Rand, n, anys int) []uint8 {
	list := make([]uint8, n)
	for i := range list {
		list[i] = truths[r.Intn(2)]
		if r.Intn(4) < anys {
			list[i] = q
		}
	}
	return list
}

// drawnFrame adds a state and inputs to a circuit.
func drawnFrame(r *rand.Rand, c api.Circuit, anys int) frame {
	return frame{c, drawn(r, len(c.Latches), anys), drawn(r, c.Inputs, anys)}
}

func drawnCircuit(r *rand.Rand, size int) api.Circuit {
	c := api.Circuit{Inputs: r.Intn(size + 1), Latches: make([]api.Latch, r.Intn(size+1))}
	for range r.Intn(3 * size) {
		own := 2 * (1 + c.Inputs + len(c.Latches) + len(c.Ands))
		a, b := r.Intn(own), r.Intn(own)
		if r.Intn(2) == 0 {
			a = max(a, own-1-r.Intn(4))
		}
		c.Ands = append(c.Ands, api.And{A: max(a, b), B: min(a, b)})
	}
	end := 2 * (lastOf(c) + 1)
	for i := range c.Latches {
		c.Latches[i] = api.Latch{Next: r.Intn(end), Reset: r.Intn(3)}
	}
	for range r.Intn(3) {
		c.Bads, c.Constraints = append(c.Bads, r.Intn(end)), append(c.Constraints, r.Intn(end))
	}
	return c
}

// frames yields valid circuits of many sizes, each with states and inputs from none to all of which are TeAny.
func frames() iter.Seq[frame] {
	return func(yield func(frame) bool) {
		r := rand.New(rand.NewSource(51))
		for round := range 300 {
			c := drawnCircuit(r, 1+round/10)
			for anys := range 5 {
				if !yield(drawnFrame(r, c, anys)) {
					return
				}
			}
		}
		for _, c := range []api.Circuit{{}, {Inputs: 1000}, {Latches: make([]api.Latch, 1000)}, {Ands: make([]api.And, 1000)}, example(), full()} {
			for anys := range 5 {
				if !yield(drawnFrame(r, c, anys)) {
					return
				}
			}
		}
	}
}

func lastOf(c api.Circuit) int { return c.Inputs + len(c.Latches) + len(c.Ands) }

func allOf(t *testing.T, f frame) []uint8 {
	t.Helper()
	list, e := ternary.All(f.c, f.state, f.inputs)
	if e != api.OK {
		t.Fatalf("All(%+v): error %d", f, e)
	}
	return list
}

func nextOf(t *testing.T, f frame) []uint8 {
	t.Helper()
	list, e := ternary.Next(f.c, f.state, f.inputs)
	if e != api.OK {
		t.Fatalf("Next(%+v): error %d", f, e)
	}
	return list
}

func firstOf(t *testing.T, c api.Circuit) []uint8 {
	t.Helper()
	list, e := ternary.First(c)
	if e != api.OK {
		t.Fatalf("First(%+v): error %d", c, e)
	}
	return list
}

func covers(t *testing.T, a, b []uint8) bool {
	t.Helper()
	is, e := ternary.Covers(a, b)
	if e != api.OK {
		t.Fatalf("Covers(%v, %v): error %d", a, b, e)
	}
	return is
}

// fails tests that All and Next return the error, and zero values.
func fails(t *testing.T, name string, f frame, want api.Errno) {
	t.Helper()
	if list, e := ternary.All(f.c, f.state, f.inputs); len(list) != 0 || e != want {
		t.Errorf("%s: All = %v, %d; want error %d", name, list, e, want)
	}
	if list, e := ternary.Next(f.c, f.state, f.inputs); len(list) != 0 || e != want {
		t.Errorf("%s: Next = %v, %d; want error %d", name, list, e, want)
	}
}

// P5.1

func TestAnd(t *testing.T) {
	for _, y := range [][3]uint8{
		{o, o, o}, {o, x, o}, {o, q, o},
		{x, o, o}, {x, x, x}, {x, q, q},
		{q, o, o}, {q, x, q}, {q, q, q},
	} {
		if v, e := ternary.And(y[0], y[1]); v != y[2] || e != api.OK {
			t.Errorf("And(%d, %d) = %d, %d; want %d", y[0], y[1], v, e, y[2])
		}
	}
}

func TestNot(t *testing.T) {
	for _, y := range [][2]uint8{{o, x}, {x, o}, {q, q}} {
		if v, e := ternary.Not(y[0]); v != y[1] || e != api.OK {
			t.Errorf("Not(%d) = %d, %d; want %d", y[0], v, e, y[1])
		}
	}
}

func TestAndAndNotOfOtherNumbers(t *testing.T) {
	for a := range 256 {
		if v, e := ternary.Not(uint8(a)); a > 2 && (v != 0 || e != api.ErrBad) {
			t.Errorf("Not(%d) = %d, %d; want ErrBad", a, v, e)
		}
		for b := range 256 {
			if v, e := ternary.And(uint8(a), uint8(b)); (a > 2 || b > 2) && (v != 0 || e != api.ErrBad) {
				t.Errorf("And(%d, %d) = %d, %d; want ErrBad", a, b, v, e)
			}
		}
	}
}

// P5.2

func TestTheExample(t *testing.T) {
	for _, y := range []struct {
		state, all, next []uint8
	}{
		{[]uint8{o}, []uint8{o, o, o}, []uint8{o}},
		{[]uint8{x}, []uint8{o, x, o}, []uint8{o}},
		{[]uint8{q}, []uint8{o, q, q}, []uint8{q}},
	} {
		f := frame{example(), y.state, nil}
		if all := allOf(t, f); !slices.Equal(all, y.all) {
			t.Errorf("%v: All = %v; want %v", y.state, all, y.all)
		}
		if next := nextOf(t, f); !slices.Equal(next, y.next) {
			t.Errorf("%v: Next = %v; want %v", y.state, next, y.next)
		}
	}
	if first := firstOf(t, example()); !slices.Equal(first, []uint8{q}) {
		t.Errorf("First = %v", first)
	}
}

func TestAnOrdinaryCircuit(t *testing.T) {
	// The inputs 1 and 2, the latches 3 and 4, the gates 5 (of the input 1 and the latch 3), 6 (of neither 5 nor 2) and 7 (of 6 and the latch 4).
	c := api.Circuit{
		Inputs:  2,
		Latches: []api.Latch{{Next: 13, Reset: api.ReOne}, {Next: 14, Reset: api.ReAny}},
		Ands:    []api.And{{A: 6, B: 2}, {A: 11, B: 5}, {A: 12, B: 8}},
		Bads:    []int{14},
	}
	for _, y := range []struct {
		state, inputs, all, next []uint8
	}{
		{[]uint8{x, q}, []uint8{o, o}, []uint8{o, o, o, x, q, o, x, q}, []uint8{o, q}},
		{[]uint8{x, q}, []uint8{q, o}, []uint8{o, q, o, x, q, q, q, q}, []uint8{q, q}},
		{[]uint8{x, q}, []uint8{q, x}, []uint8{o, q, x, x, q, q, o, o}, []uint8{x, o}},
		{[]uint8{q, x}, []uint8{x, q}, []uint8{o, x, q, q, x, q, q, q}, []uint8{q, q}},
		{[]uint8{q, x}, []uint8{o, o}, []uint8{o, o, o, q, x, o, x, x}, []uint8{o, x}},
		{[]uint8{q, o}, []uint8{q, q}, []uint8{o, q, q, q, o, q, q, o}, []uint8{q, o}},
		{[]uint8{x, o}, []uint8{x, q}, []uint8{o, x, q, x, o, x, o, o}, []uint8{x, o}},
	} {
		f := frame{c, y.state, y.inputs}
		if all := allOf(t, f); !slices.Equal(all, y.all) {
			t.Errorf("%v, %v: All = %v; want %v", y.state, y.inputs, all, y.all)
		}
		if next := nextOf(t, f); !slices.Equal(next, y.next) {
			t.Errorf("%v, %v: Next = %v; want %v", y.state, y.inputs, next, y.next)
		}
	}
	if first := firstOf(t, c); !slices.Equal(first, []uint8{x, q}) {
		t.Errorf("First = %v", first)
	}
}

func TestAllAndNextAtTheEdges(t *testing.T) {
	for _, y := range []struct {
		name      string
		f         frame
		all, next []uint8
	}{
		{"nothing", frame{}, []uint8{o}, nil},
		{"no latches, no gates", frame{api.Circuit{Inputs: 3}, nil, []uint8{x, q, o}}, []uint8{o, x, q, o}, nil},
		{"no inputs, no gates", frame{api.Circuit{Latches: []api.Latch{{Next: 4}, {Next: 2}}}, []uint8{q, x}, nil}, []uint8{o, q, x}, []uint8{x, q}},
		{"gates only", frame{api.Circuit{Ands: []api.And{{A: 0, B: 0}, {A: 1, B: 0}, {A: 1, B: 1}, {A: 6, B: 3}}}, nil, nil}, []uint8{o, o, o, x, x}, nil},
		{"no gates", frame{api.Circuit{Inputs: 1, Latches: []api.Latch{{Next: 2}, {Next: 3}}}, []uint8{o, o}, []uint8{q}}, []uint8{o, q, o, o}, []uint8{q, q}},
		{"next of the variable 0", frame{api.Circuit{Latches: []api.Latch{{Next: 0}, {Next: 1}}}, []uint8{q, q}, nil}, []uint8{o, q, q}, []uint8{o, x}},
		{"next of negations", frame{api.Circuit{Latches: []api.Latch{{Next: 3}, {Next: 5}, {Next: 7}}}, []uint8{o, x, q}, nil}, []uint8{o, o, x, q}, []uint8{x, o, q}},
		{"gates of the variable 0", frame{api.Circuit{Inputs: 1, Ands: []api.And{{A: 2, B: 0}, {A: 2, B: 1}, {A: 3, B: 0}, {A: 3, B: 1}}}, nil, []uint8{q}}, []uint8{o, q, o, q, o, q}, nil},
		{"gates of a literal with itself", frame{api.Circuit{Inputs: 1, Ands: []api.And{{A: 2, B: 2}, {A: 3, B: 3}, {A: 3, B: 2}}}, nil, []uint8{q}}, []uint8{o, q, q, q, q}, nil},
		{"the same, and the input is false", frame{api.Circuit{Inputs: 1, Ands: []api.And{{A: 2, B: 2}, {A: 3, B: 3}, {A: 3, B: 2}}}, nil, []uint8{o}}, []uint8{o, o, o, x, o}, nil},
		{"gates of negations of gates", frame{api.Circuit{Inputs: 2, Ands: []api.And{{A: 4, B: 2}, {A: 7, B: 3}, {A: 9, B: 7}}}, nil, []uint8{o, q}}, []uint8{o, o, q, o, x, o}, nil},
		{"resets and constraints that are false", frame{api.Circuit{Latches: []api.Latch{{Next: 2, Reset: api.ReOne}}, Constraints: []int{0}}, []uint8{o}, nil}, []uint8{o, o}, []uint8{o}},
	} {
		if all := allOf(t, y.f); !slices.Equal(all, y.all) {
			t.Errorf("%s: All = %v; want %v", y.name, all, y.all)
		}
		if next := nextOf(t, y.f); !slices.Equal(next, y.next) {
			t.Errorf("%s: Next = %v; want %v", y.name, next, y.next)
		}
	}
}

// wanted returns the values of literals as the chapter defines them: each value is the set of the truth values that a literal may have, told from its parts alone.
func wanted(f frame, list []int) []uint8 {
	known := map[int]uint8{}
	var valueOf func(l int) uint8
	valueOf = func(l int) uint8 {
		v := l / 2
		value, is := known[v]
		switch first := f.c.Inputs + len(f.c.Latches) + 1; {
		case is || v == 0:
		case v <= f.c.Inputs:
			value = f.inputs[v-1]
		case v < first:
			value = f.state[v-f.c.Inputs-1]
		default:
			value = wantedAnd(valueOf(f.c.Ands[v-first].A), valueOf(f.c.Ands[v-first].B))
		}
		known[v] = value
		if l%2 == 1 && value != q {
			return 1 - value
		}
		return value
	}
	var all []uint8
	for _, l := range list {
		all = append(all, valueOf(l))
	}
	return all
}

// wantedAnd tells the AND from all pairs of two truth values for which both parts may stand.
func wantedAnd(a, b uint8) uint8 {
	var may [2]bool
	for _, i := range pairOf(a) {
		for _, j := range pairOf(b) {
			may[i*j] = true
		}
	}
	switch {
	case may[0] && may[1]:
		return q
	case may[1]:
		return x
	}
	return o
}

// pairOf returns the truth values, of two, for which a value may stand.
func pairOf(a uint8) []uint8 {
	if a == q {
		return []uint8{o, x}
	}
	return []uint8{a}
}

func evens(c api.Circuit) []int {
	var all []int
	for v := range lastOf(c) + 1 {
		all = append(all, 2*v)
	}
	return all
}

func nexts(c api.Circuit) []int {
	var all []int
	for _, l := range c.Latches {
		all = append(all, l.Next)
	}
	return all
}

func TestAllAndNextAreAsDefined(t *testing.T) {
	var found [3]int
	for f := range frames() {
		all, next := allOf(t, f), nextOf(t, f)
		if want := wanted(f, evens(f.c)); !slices.Equal(all, want) {
			t.Fatalf("All(%+v) = %v; want %v", f, all, want)
		}
		if want := wanted(f, nexts(f.c)); !slices.Equal(next, want) {
			t.Fatalf("Next(%+v) = %v; want %v", f, next, want)
		}
		for _, value := range next {
			found[value]++
		}
	}
	if min(found[o], found[x], found[q]) < 1000 {
		t.Fatalf("next states have only so many of each truth value: %v", found)
	}
}

// Each circuit of an input, a latch and a gate, and each frame of it.
func TestAllSmallFrames(t *testing.T) {
	for next := range 8 {
		for i := range 36 {
			if i%6 > i/6 {
				continue
			}
			c := api.Circuit{Inputs: 1, Latches: []api.Latch{{Next: next}}, Ands: []api.And{{A: i / 6, B: i % 6}}}
			for j := range 9 {
				f := frame{c, []uint8{truths[j/3]}, []uint8{truths[j%3]}}
				if all, want := allOf(t, f), wanted(f, evens(c)); !slices.Equal(all, want) {
					t.Errorf("All(%+v) = %v; want %v", f, all, want)
				}
				if list, want := nextOf(t, f), wanted(f, nexts(c)); !slices.Equal(list, want) {
					t.Errorf("Next(%+v) = %v; want %v", f, list, want)
				}
			}
		}
	}
}

func TestFirst(t *testing.T) {
	for _, y := range []struct {
		resets []int
		want   []uint8
	}{
		{nil, nil},
		{[]int{api.ReZero}, []uint8{o}},
		{[]int{api.ReOne}, []uint8{x}},
		{[]int{api.ReAny}, []uint8{q}},
		{[]int{api.ReAny, api.ReOne, api.ReZero, api.ReOne}, []uint8{q, x, o, x}},
		{[]int{api.ReZero, api.ReAny, api.ReAny}, []uint8{o, q, q}},
	} {
		for inputs := range 3 {
			c := api.Circuit{Inputs: inputs, Constraints: []int{0}, Bads: []int{1}}
			for i, reset := range y.resets {
				c.Latches = append(c.Latches, api.Latch{Next: 1 - i%2, Reset: reset})
			}
			if first := firstOf(t, c); !slices.Equal(first, y.want) {
				t.Errorf("resets %v: First = %v; want %v", y.resets, first, y.want)
			}
		}
	}
	for f := range frames() {
		first := firstOf(t, f.c)
		if len(first) != len(f.c.Latches) {
			t.Fatalf("First(%+v) = %v", f.c, first)
		}
		for i, l := range f.c.Latches {
			if first[i] != [3]uint8{api.ReZero: o, api.ReOne: x, api.ReAny: q}[l.Reset] {
				t.Fatalf("First(%+v) = %v", f.c, first)
			}
		}
	}
}

// spoiled yields the list with each of the numbers that are no truth values in some of its places.
func spoiled(list []uint8) iter.Seq[[]uint8] {
	return func(yield func([]uint8) bool) {
		for i := range list {
			if i > 3 && i < len(list)-3 {
				continue
			}
			for _, w := range wrongs {
				wrong := slices.Clone(list)
				wrong[i] = w
				if !yield(wrong) {
					return
				}
			}
		}
	}
}

func TestStatesAndInputsOfWrongLengths(t *testing.T) {
	for f := range frames() {
		longState, longInputs := append(slices.Clone(f.state), o), append(slices.Clone(f.inputs), q)
		fails(t, "a long state", frame{f.c, longState, f.inputs}, api.ErrArg)
		fails(t, "long inputs", frame{f.c, f.state, longInputs}, api.ErrArg)
		fails(t, "both long", frame{f.c, longState, longInputs}, api.ErrArg)
		if n := len(f.state); n > 0 {
			fails(t, "a short state", frame{f.c, f.state[:n-1], f.inputs}, api.ErrArg)
			fails(t, "a short state, and long inputs", frame{f.c, f.state[1:], longInputs}, api.ErrArg)
			fails(t, "no state", frame{f.c, nil, f.inputs}, api.ErrArg)
		}
		if n := len(f.inputs); n > 0 {
			fails(t, "short inputs", frame{f.c, f.state, f.inputs[:n-1]}, api.ErrArg)
			fails(t, "short inputs, and a long state", frame{f.c, longState, f.inputs[1:]}, api.ErrArg)
			fails(t, "no inputs", frame{f.c, f.state, nil}, api.ErrArg)
		}
		if len(f.state) != len(f.inputs) {
			fails(t, "the one as the other", frame{f.c, f.inputs, f.state}, api.ErrArg)
		}
	}
}

func TestNumbersThatAreNoTruthValues(t *testing.T) {
	for f := range frames() {
		for state := range spoiled(f.state) {
			fails(t, "a state", frame{f.c, state, f.inputs}, api.ErrBad)
		}
		for inputs := range spoiled(f.inputs) {
			fails(t, "inputs", frame{f.c, f.state, inputs}, api.ErrBad)
		}
	}
	c := api.Circuit{Inputs: 1, Latches: make([]api.Latch, 1)}
	fails(t, "both", frame{c, []uint8{3}, []uint8{255}}, api.ErrBad)
}

// Lengths come before truth values.
func TestWrongLengthsOfNumbersThatAreNoTruthValues(t *testing.T) {
	c := api.Circuit{Inputs: 2, Latches: make([]api.Latch, 2)}
	right := []uint8{o, q}
	for _, list := range [][]uint8{{3}, {3, 4, 5}, {x, o, 255}, {o, 3, q}} {
		fails(t, "a state", frame{c, list, right}, api.ErrArg)
		fails(t, "inputs", frame{c, right, list}, api.ErrArg)
		fails(t, "both", frame{c, list, list}, api.ErrArg)
		fails(t, "a state, and other inputs", frame{c, list, []uint8{255, o}}, api.ErrArg)
		fails(t, "inputs, and another state", frame{c, []uint8{o, 3}, list}, api.ErrArg)
	}
	fails(t, "a wrong state, and no inputs", frame{c, []uint8{3, 3}, nil}, api.ErrArg)
	fails(t, "no state, and wrong inputs", frame{c, nil, []uint8{3, 3}}, api.ErrArg)
}

func TestCircuitsThatAreNotValid(t *testing.T) {
	for _, y := range []struct {
		name string
		c    api.Circuit
		want api.Errno
	}{
		{"Inputs below 0", api.Circuit{Inputs: -1}, api.ErrBad},
		{"the least Inputs", api.Circuit{Inputs: math.MinInt, Bads: make([]int, 101)}, api.ErrBad},
		{"too many inputs", api.Circuit{Inputs: 1001}, api.ErrMany},
		{"the greatest Inputs", api.Circuit{Inputs: math.MaxInt, Latches: make([]api.Latch, 1)}, api.ErrMany},
		{"too many latches", api.Circuit{Inputs: 1, Latches: make([]api.Latch, 1000)}, api.ErrMany},
		{"too many gates", api.Circuit{Latches: make([]api.Latch, 1), Ands: make([]api.And, 1000)}, api.ErrMany},
		{"too many bad literals", api.Circuit{Bads: make([]int, 101)}, api.ErrMany},
		{"too many constraints", api.Circuit{Constraints: make([]int, 101)}, api.ErrMany},
		{"a bad literal", api.Circuit{Inputs: 1, Bads: []int{4}}, api.ErrBad},
		{"a constraint", api.Circuit{Inputs: 1, Constraints: []int{-1}}, api.ErrBad},
		{"next", api.Circuit{Latches: []api.Latch{{Next: 4}}}, api.ErrBad},
		{"a reset past ReAny", api.Circuit{Latches: []api.Latch{{Reset: 3}}}, api.ErrBad},
		{"a reset below 0", api.Circuit{Latches: []api.Latch{{Reset: -1}}}, api.ErrBad},
		{"the lesser part first", api.Circuit{Inputs: 2, Ands: []api.And{{A: 2, B: 4}}}, api.ErrBad},
		{"a gate of itself", api.Circuit{Inputs: 2, Ands: []api.And{{A: 6, B: 4}}}, api.ErrBad},
		{"a part below 0", api.Circuit{Inputs: 2, Ands: []api.And{{A: 4, B: -1}}}, api.ErrBad},
	} {
		if e := gates.Check(y.c); e != y.want {
			t.Fatalf("%s: gates.Check says %d; want %d", y.name, e, y.want)
		}
		if first, e := ternary.First(y.c); len(first) != 0 || e != y.want {
			t.Errorf("%s: First = %v, %d; want error %d", y.name, first, e, y.want)
		}
		state, inputs := make([]uint8, len(y.c.Latches)), make([]uint8, min(max(0, y.c.Inputs), 2000))
		wrong := []uint8{3, 255}
		fails(t, y.name, frame{y.c, state, inputs}, y.want)
		fails(t, y.name+", and no lists", frame{y.c, nil, nil}, y.want)
		fails(t, y.name+", and a long state", frame{y.c, append(slices.Clone(state), o), inputs}, y.want)
		fails(t, y.name+", and long inputs", frame{y.c, state, append(slices.Clone(inputs), o)}, y.want)
		fails(t, y.name+", and no truth values", frame{y.c, slices.Repeat(wrong, len(state))[:len(state)], slices.Repeat(wrong, len(inputs))[:len(inputs)]}, y.want)
		fails(t, y.name+", and long lists of no truth values", frame{y.c, append(state, wrong...), append(inputs, wrong...)}, y.want)
	}
}

// P5.3

func TestCovers(t *testing.T) {
	for _, y := range []struct {
		name string
		a, b []uint8
		want bool
	}{
		{"empty lists", nil, nil, true},
		{"the same, false", []uint8{o}, []uint8{o}, true},
		{"the same, true", []uint8{x}, []uint8{x}, true},
		{"the same, any", []uint8{q}, []uint8{q}, true},
		{"any and false", []uint8{q}, []uint8{o}, true},
		{"any and true", []uint8{q}, []uint8{x}, true},
		{"false and any", []uint8{o}, []uint8{q}, false},
		{"true and any", []uint8{x}, []uint8{q}, false},
		{"false and true", []uint8{o}, []uint8{x}, false},
		{"true and false", []uint8{x}, []uint8{o}, false},
		{"the same list", []uint8{o, x, q}, []uint8{o, x, q}, true},
		{"a wider one", []uint8{o, q, q}, []uint8{o, x, q}, true},
		{"a narrower one", []uint8{o, x, q}, []uint8{o, q, q}, false},
		{"wider and narrower", []uint8{q, x}, []uint8{o, q}, false},
		{"the first one differs", []uint8{x, q, q}, []uint8{o, x, o}, false},
		{"the last one differs", []uint8{q, q, x}, []uint8{o, x, o}, false},
		{"any of all", []uint8{q, q, q}, []uint8{o, x, q}, true},
	} {
		if is := covers(t, y.a, y.b); is != y.want {
			t.Errorf("%s: Covers(%v, %v) = %t", y.name, y.a, y.b, is)
		}
	}
}

// lists returns all lists of truth values of a length.
func lists(n int) [][]uint8 {
	all := [][]uint8{nil}
	for range n {
		var longer [][]uint8
		for _, list := range all {
			for _, value := range truths {
				longer = append(longer, append(slices.Clone(list), value))
			}
		}
		all = longer
	}
	return all
}

func TestCoversIsAsDefined(t *testing.T) {
	for n := range 5 {
		for _, a := range lists(n) {
			for _, b := range lists(n) {
				want := true
				for i := range a {
					want = want && (a[i] == q || a[i] == b[i])
				}
				if is := covers(t, a, b); is != want {
					t.Errorf("Covers(%v, %v) = %t", a, b, is)
				}
			}
		}
	}
	long := slices.Repeat([]uint8{o, x, q, q}, 1250)
	if !covers(t, long, long) || !covers(t, slices.Repeat([]uint8{q}, 5000), long) || covers(t, long, slices.Repeat([]uint8{q}, 5000)) {
		t.Error("long lists")
	}
	for i := range long {
		other := slices.Clone(long)
		other[i] = 1 - min(1, long[i])
		if covers(t, long, other) != (long[i] == q) || covers(t, other, long) {
			t.Fatalf("long lists, one of which has %d instead of %d in the place %d", other[i], long[i], i)
		}
	}
}

func coversFails(t *testing.T, a, b []uint8, want api.Errno) {
	t.Helper()
	if is, e := ternary.Covers(a, b); is || e != want {
		t.Errorf("Covers(%v, %v) = %t, %d; want error %d", a, b, is, e, want)
	}
}

func TestListsOfDifferentLengths(t *testing.T) {
	for n := range 4 {
		for m := range 4 {
			for _, a := range lists(n) {
				for _, b := range lists(m) {
					if n != m {
						coversFails(t, a, b, api.ErrArg)
					}
				}
			}
		}
	}
	coversFails(t, make([]uint8, 5000), make([]uint8, 4999), api.ErrArg)
}

// Truth values come before lengths.
func TestListsOfNumbersThatAreNoTruthValues(t *testing.T) {
	for _, a := range [][]uint8{nil, {o}, {q, x}, {o, q, x}, {q, q, q, q}} {
		for _, b := range [][]uint8{nil, {x}, {o, x}, {o, q, x}, {o, x, o, x}} {
			for wrong := range spoiled(a) {
				coversFails(t, wrong, b, api.ErrBad)
			}
			for wrong := range spoiled(b) {
				coversFails(t, a, wrong, api.ErrBad)
			}
		}
	}
	for _, w := range wrongs {
		coversFails(t, []uint8{w}, []uint8{w}, api.ErrBad)
		coversFails(t, []uint8{w}, []uint8{w, w}, api.ErrBad)
		coversFails(t, []uint8{x, w}, []uint8{o, o}, api.ErrBad)
		coversFails(t, []uint8{x, o}, []uint8{o, w}, api.ErrBad)
	}
}

// P5.4

// narrowed returns a list that is covered by this one.
func narrowed(r *rand.Rand, list []uint8) []uint8 {
	other := slices.Clone(list)
	for i, value := range list {
		if value == q {
			other[i] = truths[r.Intn(3)]
		}
	}
	return other
}

func TestFramesCoverFrames(t *testing.T) {
	r := rand.New(rand.NewSource(52))
	differ := 0
	for f := range frames() {
		all, next := allOf(t, f), nextOf(t, f)
		for range 4 {
			other := frame{f.c, narrowed(r, f.state), narrowed(r, f.inputs)}
			others, nexts := allOf(t, other), nextOf(t, other)
			if !covers(t, all, others) {
				t.Fatalf("All(%+v) = %v; All(%+v) = %v", f, all, other, others)
			}
			if !covers(t, next, nexts) {
				t.Fatalf("Next(%+v) = %v; Next(%+v) = %v", f, next, other, nexts)
			}
			if !slices.Equal(next, nexts) {
				differ++
			}
		}
	}
	if differ < 1000 {
		t.Fatalf("only %d next states differ", differ)
	}
}

func boolsOf(list []uint8) []bool {
	var bools []bool
	for _, value := range list {
		bools = append(bools, value == x)
	}
	return bools
}

// withoutAny returns a frame that is covered by this one, without TeAny.
func withoutAny(r *rand.Rand, f frame) frame {
	other := frame{f.c, slices.Clone(f.state), slices.Clone(f.inputs)}
	for _, list := range [][]uint8{other.state, other.inputs} {
		for i, value := range list {
			list[i] = pairOf(value)[r.Intn(len(pairOf(value)))]
		}
	}
	return other
}

func TestWithoutAnyTheyAreThoseOfPackageValues(t *testing.T) {
	r := rand.New(rand.NewSource(53))
	for f := range frames() {
		two := withoutAny(r, f)
		state, inputs := boolsOf(two.state), boolsOf(two.inputs)
		all, next := allOf(t, two), nextOf(t, two)
		wantAll, e := values.All(f.c, state, inputs)
		if e != api.OK || slices.Contains(all, q) || !slices.Equal(boolsOf(all), wantAll) {
			t.Fatalf("All(%+v) = %v; values.All = %v, %d", two, all, wantAll, e)
		}
		wantNext, e := values.Next(f.c, state, inputs)
		if e != api.OK || slices.Contains(next, q) || !slices.Equal(boolsOf(next), wantNext) {
			t.Fatalf("Next(%+v) = %v; values.Next = %v, %d", two, next, wantNext, e)
		}
		if !covers(t, allOf(t, f), all) || !covers(t, nextOf(t, f), next) {
			t.Fatalf("the frame of %+v does not cover %v, %v", f, all, next)
		}
	}
}

func TestRulesOfAndAndNot(t *testing.T) {
	and := func(a, b uint8) uint8 {
		v, e := ternary.And(a, b)
		if e != api.OK {
			t.Fatalf("And(%d, %d): error %d", a, b, e)
		}
		return v
	}
	for _, a := range truths {
		once, e := ternary.Not(a)
		if twice, d := ternary.Not(once); twice != a || e != api.OK || d != api.OK {
			t.Errorf("Not(%d) = %d, %d; Not(%d) = %d, %d", a, once, e, once, twice, d)
		}
		for _, b := range truths {
			if and(a, b) != and(b, a) {
				t.Errorf("And(%d, %d) = %d; And(%d, %d) = %d", a, b, and(a, b), b, a, and(b, a))
			}
			for _, c := range truths {
				if and(and(a, b), c) != and(a, and(b, c)) {
					t.Errorf("of %d, %d and %d: %d; %d", a, b, c, and(and(a, b), c), and(a, and(b, c)))
				}
			}
		}
	}
}

func TestCoveringIsInOneDirection(t *testing.T) {
	for n := range 5 {
		for _, a := range lists(n) {
			for _, b := range lists(n) {
				if both := covers(t, a, b) && covers(t, b, a); both != slices.Equal(a, b) {
					t.Errorf("%v and %v cover each other: %t", a, b, both)
				}
			}
		}
	}
}
