package traces_test

import (
	"iter"
	"math/rand"
	"slices"
	"testing"

	"spiritlevel/api"
	"spiritlevel/traces"
)

const (
	o = false
	x = true
)

// run is a circuit with a run.
type run struct {
	c api.Circuit
	t api.Trace
}

// example is the circuit of the chapter's section Examples.
func example() api.Circuit {
	return api.Circuit{Latches: []api.Latch{{Next: 3}}, Bads: []int{2}}
}

// full has 1,000 variables, and 100 bad literals and constraints.
func full() api.Circuit {
	c := api.Circuit{Inputs: 300}
	for i := range 300 {
		c.Latches = append(c.Latches, api.Latch{Next: 2001 - i, Reset: i % 3})
	}
	for i := range 400 {
		c.Ands = append(c.Ands, api.And{A: 2*(601+i) - 1 - i%3, B: 3*i + 1})
	}
	for i := range 100 {
		c.Bads, c.Constraints = append(c.Bads, 2001-7*i), append(c.Constraints, 11*i)
	}
	return c
}

func lastOf(c api.Circuit) int { return c.Inputs + len(c.Latches) + len(c.Ands) }

func bits(r *rand.Rand, n int) []bool {
	list := make([]bool, n)
	for i := range list {
		list[i] = r.Intn(2) == 0
	}
	return list
}

// drawnRun adds a run of n frames to a circuit.
func drawnRun(r *rand.Rand, c api.Circuit, n int) run {
	y := run{c, api.Trace{First: bits(r, len(c.Latches))}}
	for i, l := range c.Latches {
		if l.Reset != api.ReAny {
			y.t.First[i] = l.Reset == api.ReOne
		}
	}
	for range n {
		y.t.Inputs = append(y.t.Inputs, bits(r, c.Inputs))
	}
	return y
}

func drawnCircuit(r *rand.Rand, size int) api.Circuit {
	c := api.Circuit{Inputs: r.Intn(size + 1), Latches: make([]api.Latch, r.Intn(size+1))}
	for range r.Intn(3 * size) {
		own := 2 * (1 + c.Inputs + len(c.Latches) + len(c.Ands))
		a, b := r.Intn(own), r.Intn(own)
		c.Ands = append(c.Ands, api.And{A: max(a, b), B: min(a, b)})
	}
	last := lastOf(c)
	for i := range c.Latches {
		c.Latches[i] = api.Latch{Next: r.Intn(2*last + 2), Reset: r.Intn(3)}
	}
	// Gates are false more often than true: so a bad literal is seldom true, and a constraint seldom fails.
	for range r.Intn(4) {
		c.Bads = append(c.Bads, 2*max(r.Intn(last+1), r.Intn(last+1)))
	}
	for range r.Intn(3) {
		c.Constraints = append(c.Constraints, 2*max(r.Intn(last+1), r.Intn(last+1))+1)
	}
	return c
}

// runs yields right runs of from 1 to 100 frames, of circuits of many sizes, also of those at the edges of what is valid.
func runs() iter.Seq[run] {
	return func(yield func(run) bool) {
		r := rand.New(rand.NewSource(61))
		for round := range 400 {
			c := drawnCircuit(r, 1+round/20)
			for _, n := range []int{1, 2, 3 + r.Intn(10)} {
				if !yield(drawnRun(r, c, n)) {
					return
				}
			}
		}
		edges := []api.Circuit{{}, {Inputs: 1000}, {Latches: make([]api.Latch, 1000)}, {Ands: make([]api.And, 1000)}, example(), drawnCircuit(r, 5), drawnCircuit(r, 10), full()}
		for _, c := range edges {
			for _, n := range []int{1, 2, 7, 99, 100} {
				if !yield(drawnRun(r, c, n)) {
					return
				}
			}
		}
	}
}

// frame is what the chapter says of a frame of a run.
type frame struct {
	state []bool
	right bool
	bads  []bool
}

// wantedValue is the definition of chapter 4, said once more: the value of a literal, from the parts of its variable, as far as they are gates.
func wantedValue(c api.Circuit, state, inputs []bool, l int, known map[int]bool) bool {
	v := l / 2
	value, is := known[v]
	switch {
	case is || v == 0:
	case v <= c.Inputs:
		value = inputs[v-1]
	case v <= c.Inputs+len(c.Latches):
		value = state[v-c.Inputs-1]
	default:
		g := c.Ands[v-c.Inputs-len(c.Latches)-1]
		a, b := wantedValue(c, state, inputs, g.A, known), wantedValue(c, state, inputs, g.B, known)
		value = a && b
	}
	known[v] = value
	return value == (l%2 == 0)
}

// wanted returns what the chapter says of all frames of a right run.
func wanted(y run) []frame {
	var all []frame
	state := y.t.First
	for _, inputs := range y.t.Inputs {
		known := map[int]bool{}
		valuesOf := func(list []int) []bool {
			var found []bool
			for _, l := range list {
				found = append(found, wantedValue(y.c, state, inputs, l, known))
			}
			return found
		}
		all = append(all, frame{state, !slices.Contains(valuesOf(y.c.Constraints), o), valuesOf(y.c.Bads)})
		var nexts []int
		for _, l := range y.c.Latches {
			nexts = append(nexts, l.Next)
		}
		state = valuesOf(nexts)
	}
	return all
}

// wantedRight is up to how many frames a run is allowed.
func wantedRight(all []frame) int {
	n := 0
	for n < len(all) && all[n].right {
		n++
	}
	return n
}

// wantedWitness is the index of the bad literal that a run shows, or -1 if it is no witness.
func wantedWitness(all []frame) int {
	if wantedRight(all) < len(all) {
		return -1
	}
	return slices.Index(all[len(all)-1].bads, x)
}

// wantedCut is to how many frames a run is cut, or 0 if it is not.
func wantedCut(all []frame) int {
	for n := 1; n <= len(all); n++ {
		if wantedWitness(all[:n]) >= 0 {
			return n
		}
	}
	return 0
}

func equalLists(a, b [][]bool) bool { return slices.EqualFunc(a, b, slices.Equal[[]bool]) }

func equalTraces(a, b api.Trace) bool {
	return slices.Equal(a.First, b.First) && equalLists(a.Inputs, b.Inputs)
}

// shortened returns the first n frames of a run.
func shortened(y run, n int) run {
	y.t.Inputs = y.t.Inputs[:n:n]
	return y
}

// lengthened returns the run with one frame more.
func lengthened(y run, inputs []bool) run {
	y.t.Inputs = append(slices.Clone(y.t.Inputs), inputs)
	return y
}

func firstOf(t *testing.T, c api.Circuit, state []bool) bool {
	t.Helper()
	is, e := traces.First(c, state)
	if e != api.OK {
		t.Fatalf("First(%+v, %v): error %d", c, state, e)
	}
	return is
}

func statesOf(t *testing.T, y run) [][]bool {
	t.Helper()
	if e := traces.Check(y.c, y.t); e != api.OK {
		t.Fatalf("Check(%+v): error %d", y, e)
	}
	list, e := traces.States(y.c, y.t)
	if e != api.OK {
		t.Fatalf("States(%+v): error %d", y, e)
	}
	return list
}

func rightOf(t *testing.T, y run) int {
	t.Helper()
	n, e := traces.Right(y.c, y.t)
	if e != api.OK {
		t.Fatalf("Right(%+v): error %d", y, e)
	}
	return n
}

// witnessOf returns -1 if the run is no witness.
func witnessOf(t *testing.T, y run) int {
	t.Helper()
	index, e := traces.Witness(y.c, y.t)
	switch {
	case e == api.ErrWitness && index == 0:
		return -1
	case e != api.OK || index < 0:
		t.Fatalf("Witness(%+v) = %d, %d", y, index, e)
	}
	return index
}

// cutOf returns false if there is no frame to which the run is cut.
func cutOf(t *testing.T, y run) (api.Trace, bool) {
	t.Helper()
	cut, e := traces.Cut(y.c, y.t)
	switch {
	case e == api.ErrNone && len(cut.First) == 0 && len(cut.Inputs) == 0:
		return cut, false
	case e != api.OK:
		t.Fatalf("Cut(%+v) = %v, %d", y, cut, e)
	}
	return cut, true
}

// shows tests what all functions say of a right run: up to how many frames it is allowed, its bad literal or -1, and the frames to which it is cut, or 0.
func shows(t *testing.T, y run, right, witness, cut int) {
	t.Helper()
	if n := rightOf(t, y); n != right {
		t.Errorf("Right(%+v) = %d; want %d", y, n, right)
	}
	if index := witnessOf(t, y); index != witness {
		t.Errorf("Witness(%+v) = %d; want %d", y, index, witness)
	}
	part, is := cutOf(t, y)
	if want := shortened(y, cut); is != (cut > 0) || is && !equalTraces(part, want.t) {
		t.Errorf("Cut(%+v) = %v, %t; want %d frames", y, part, is, cut)
	}
}

// fails tests that all functions with a run return the error, and zero values.
func fails(t *testing.T, name string, y run, want api.Errno) {
	t.Helper()
	if e := traces.Check(y.c, y.t); e != want {
		t.Errorf("%s: Check says %d; want error %d", name, e, want)
	}
	if list, e := traces.States(y.c, y.t); len(list) != 0 || e != want {
		t.Errorf("%s: States = %v, %d; want error %d", name, list, e, want)
	}
	if n, e := traces.Right(y.c, y.t); n != 0 || e != want {
		t.Errorf("%s: Right = %d, %d; want error %d", name, n, e, want)
	}
	if index, e := traces.Witness(y.c, y.t); index != 0 || e != want {
		t.Errorf("%s: Witness = %d, %d; want error %d", name, index, e, want)
	}
	if cut, e := traces.Cut(y.c, y.t); len(cut.First) != 0 || len(cut.Inputs) != 0 || e != want {
		t.Errorf("%s: Cut = %v, %d; want error %d", name, cut, e, want)
	}
}
