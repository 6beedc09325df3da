package traces_test

import (
	"math"
	"math/rand"
	"slices"
	"testing"

	"spiritlevel/api"
	"spiritlevel/gates"
	"spiritlevel/traces"
)

// What is not valid, in the order of the errors.

// firstFails tests that First returns the error, and false.
func firstFails(t *testing.T, name string, c api.Circuit, state []bool, want api.Errno) {
	t.Helper()
	if is, e := traces.First(c, state); is || e != want {
		t.Errorf("%s: First = %t, %d; want error %d", name, is, e, want)
	}
}

func TestFirstIsNoState(t *testing.T) {
	for _, resets := range [][]int{{}, {api.ReAny}, {api.ReZero}, {api.ReAny, api.ReOne, api.ReAny}, slices.Repeat([]int{api.ReAny}, 1000)} {
		c := api.Circuit{}
		for _, reset := range resets {
			c.Latches = append(c.Latches, api.Latch{Reset: reset})
		}
		for _, n := range []int{0, 1, 2, 3, 4, 999, 1000, 1001, 5000} {
			if n != len(resets) {
				firstFails(t, "only false", c, make([]bool, n), api.ErrArg)
				firstFails(t, "only true", c, slices.Repeat([]bool{x}, n), api.ErrArg)
				firstFails(t, "room for more", c, make([]bool, n, 6000), api.ErrArg)
			}
		}
	}
	// The beginning is no first state, and it is too long or too short.
	c := api.Circuit{Latches: []api.Latch{{}, {}}}
	firstFails(t, "too long", c, []bool{x, o, o}, api.ErrArg)
	firstFails(t, "too short", c, []bool{x}, api.ErrArg)
	firstFails(t, "nil", c, nil, api.ErrArg)
}

// wrongCircuits are not valid; each with the error that gates.Check returns.
func wrongCircuits() map[string]api.Circuit {
	return map[string]api.Circuit{
		"Inputs below 0":                {Inputs: -1},
		"the least Inputs":              {Inputs: math.MinInt, Bads: make([]int, 101)},
		"too many inputs":               {Inputs: 1001},
		"the greatest Inputs":           {Inputs: math.MaxInt, Latches: make([]api.Latch, 1)},
		"too many latches":              {Inputs: 1, Latches: make([]api.Latch, 1000)},
		"too many gates":                {Latches: make([]api.Latch, 1), Ands: make([]api.And, 1000)},
		"too many bad literals":         {Bads: make([]int, 101)},
		"too many constraints":          {Constraints: make([]int, 101)},
		"too many, and a wrong literal": {Inputs: 1001, Bads: []int{-1}},
		"a bad literal":                 {Inputs: 1, Bads: []int{4}},
		"a constraint":                  {Inputs: 1, Constraints: []int{-1}},
		"next":                          {Latches: []api.Latch{{Next: 4}}},
		"a reset":                       {Latches: []api.Latch{{Reset: 3}}},
		"a reset below 0":               {Latches: []api.Latch{{Reset: -1}}},
		"the lesser part first":         {Inputs: 2, Ands: []api.And{{A: 2, B: 4}}},
		"a gate of itself":              {Inputs: 2, Ands: []api.And{{A: 6, B: 4}}},
		"a part below 0":                {Inputs: 2, Ands: []api.And{{A: 4, B: -1}}},
	}
}

// spoilt yields the run, which has at least one frame, as it is, and with what makes it not right.
func spoilt(y run, yield func(name string, y run)) {
	yield("as it is", y)
	yield("nothing", run{y.c, api.Trace{}})
	yield("no frames", run{y.c, api.Trace{First: y.t.First}})
	long := append(slices.Clone(y.t.Inputs[0]), x)
	wrong := y
	wrong.t.First = append(slices.Clone(y.t.First), x)
	yield("a long first state", wrong)
	wrong.t.First = slices.Repeat([]bool{x}, len(y.t.First))
	yield("only true", wrong)
	wrong.t.Inputs = [][]bool{long}
	yield("only true, and long inputs", wrong)
	wrong.t.Inputs = slices.Repeat(y.t.Inputs[:1], 101)
	yield("only true, and too many frames", wrong)
	wrong.t.First = y.t.First
	yield("too many frames", wrong)
	wrong.t.Inputs = slices.Repeat([][]bool{long}, 101)
	yield("too many frames, and long inputs", wrong)
}

func TestTheCircuitComesFirst(t *testing.T) {
	tried := map[api.Errno]int{}
	for name, c := range wrongCircuits() {
		want := gates.Check(c)
		tried[want]++
		inputs := make([]bool, min(max(0, c.Inputs), 2000))
		y := run{c, api.Trace{First: make([]bool, len(c.Latches)), Inputs: [][]bool{inputs, inputs}}}
		spoilt(y, func(how string, y run) {
			fails(t, name+", "+how, y, want)
			firstFails(t, name+", "+how, c, y.t.First, want)
		})
	}
	if tried[api.ErrBad] < 5 || tried[api.ErrMany] < 5 || len(tried) != 2 {
		t.Fatalf("the errors are %v", tried)
	}
	// A circuit with an error of its own, also if the run has the other one.
	many, bad := api.Circuit{Inputs: 1001}, api.Circuit{Bads: []int{2}}
	fails(t, "too many inputs, and no frames", run{many, api.Trace{}}, api.ErrMany)
	fails(t, "a bad literal, and too many frames", run{bad, api.Trace{Inputs: make([][]bool, 101)}}, api.ErrBad)
}

func TestCircuitsThatBecomeWrong(t *testing.T) {
	for y := range runs() {
		for _, l := range []int{2 * (lastOf(y.c) + 1), 2002, -1, math.MinInt, math.MaxInt} {
			wrong := y
			wrong.c.Bads = append(slices.Clone(y.c.Bads[:min(99, len(y.c.Bads))]), l)
			fails(t, "a bad literal", wrong, api.ErrBad)
			wrong.c.Bads, wrong.c.Constraints = y.c.Bads, []int{l}
			fails(t, "a constraint", wrong, api.ErrBad)
			firstFails(t, "a constraint", wrong.c, y.t.First, api.ErrBad)
		}
	}
}

func TestTooManyFrames(t *testing.T) {
	c := api.Circuit{Inputs: 1, Latches: []api.Latch{{Next: 2, Reset: api.ReOne}}, Bads: []int{4}}
	for _, n := range []int{101, 102, 200, 1000, 5000} {
		for _, first := range [][]bool{{x}, {o}, {}, {x, x}} {
			for _, size := range []int{0, 1, 2, 1000} {
				y := run{c, api.Trace{First: first, Inputs: slices.Repeat([][]bool{make([]bool, size)}, n)}}
				fails(t, "too many frames", y, api.ErrMany)
			}
		}
	}
	// A witness of 100 frames, and a frame more.
	y := run{c, api.Trace{First: []bool{x}, Inputs: slices.Repeat([][]bool{{x}}, 100)}}
	shows(t, y, 100, 0, 1)
	fails(t, "101 frames", lengthened(y, []bool{x}), api.ErrMany)
	fails(t, "101 frames, the last one with a list that is too long", lengthened(y, []bool{x, x}), api.ErrMany)
	fails(t, "101 frames, the last one nil", lengthened(y, nil), api.ErrMany)
}

func TestNoFrames(t *testing.T) {
	for _, c := range []api.Circuit{{}, {Bads: []int{1}}, {Inputs: 2}, {Latches: make([]api.Latch, 2)}, example(), full()} {
		y := drawnRun(rand.New(rand.NewSource(63)), c, 0)
		fails(t, "no frames", y, api.ErrBad)
		y.t.Inputs = [][]bool{}
		fails(t, "an empty list", y, api.ErrBad)
		y.t.Inputs = make([][]bool, 0, 100)
		fails(t, "room for frames", y, api.ErrBad)
		y.t.First = append(y.t.First, x)
		fails(t, "no frames, and a long first state", y, api.ErrBad)
	}
}

func TestNoFirstState(t *testing.T) {
	for _, n := range []int{1, 2, 100} {
		c := api.Circuit{Latches: []api.Latch{{Reset: api.ReZero}, {Reset: api.ReOne}, {Reset: api.ReAny}}, Bads: []int{1}}
		y := run{c, api.Trace{Inputs: make([][]bool, n)}}
		for i := range 8 {
			y.t.First = []bool{i&1 == 1, i&2 == 2, i&4 == 4}
			if y.t.First[0] || !y.t.First[1] {
				fails(t, "no first state", y, api.ErrBad)
			} else {
				shows(t, y, n, 0, 1)
			}
		}
		for _, first := range [][]bool{nil, {}, {o}, {o, x}, {o, x, o, o}, {o, x, x, x}, {x, x, o, x}, make([]bool, 1000)} {
			y.t.First = first
			fails(t, "no state", y, api.ErrBad)
		}
	}
	fails(t, "a state without latches", run{api.Circuit{Bads: []int{1}}, api.Trace{First: []bool{o}, Inputs: make([][]bool, 1)}}, api.ErrBad)
}

// Inputs of one frame are too few or too many, the frames in front and behind are right.
func TestInputsOfWrongLengths(t *testing.T) {
	for _, inputs := range []int{0, 1, 2, 999} {
		c := api.Circuit{Inputs: inputs, Latches: []api.Latch{{Next: 3}}, Bads: []int{1}}
		for _, n := range []int{1, 2, 3, 100} {
			for i := range n {
				for _, size := range []int{inputs - 1, inputs + 1, 0, 1001, 5000} {
					if size < 0 || size == inputs {
						continue
					}
					y := run{c, api.Trace{First: []bool{o}, Inputs: slices.Repeat([][]bool{make([]bool, inputs)}, n)}}
					y.t.Inputs[i] = make([]bool, size)
					fails(t, "inputs", y, api.ErrBad)
				}
			}
		}
	}
	// What is missing in one frame is not taken from the next one.
	c := api.Circuit{Inputs: 2, Bads: []int{1}}
	fails(t, "3 and 1", run{c, api.Trace{Inputs: [][]bool{{o, o, o}, {o}}}}, api.ErrBad)
	fails(t, "1 and 3", run{c, api.Trace{Inputs: [][]bool{{o}, {o, o, o}}}}, api.ErrBad)
	// The inputs behind a frame in which a constraint fails, or a bad literal is true, are looked at, too.
	c.Constraints = []int{0}
	fails(t, "behind a constraint", run{c, api.Trace{Inputs: [][]bool{{o, o}, {o}}}}, api.ErrBad)
	c.Constraints = nil
	fails(t, "behind a bad literal", run{c, api.Trace{Inputs: [][]bool{{o, o}, {o, o, o}}}}, api.ErrBad)
}

// A run that is right becomes wrong in one place.
func TestRunsThatBecomeWrong(t *testing.T) {
	r := rand.New(rand.NewSource(64))
	for y := range runs() {
		wrong, i := y, r.Intn(len(y.t.Inputs))
		wrong.t.Inputs = slices.Clone(y.t.Inputs)
		wrong.t.Inputs[i] = append(slices.Clone(y.t.Inputs[i]), x)
		fails(t, "long inputs", wrong, api.ErrBad)
		if y.c.Inputs > 0 {
			wrong.t.Inputs[i] = y.t.Inputs[i][1:]
			fails(t, "short inputs", wrong, api.ErrBad)
		}
		wrong = y
		wrong.t.First = append(slices.Clone(y.t.First), o)
		fails(t, "a long first state", wrong, api.ErrBad)
		if len(y.c.Latches) == 0 {
			continue
		}
		wrong.t.First = y.t.First[1:]
		fails(t, "a short first state", wrong, api.ErrBad)
		i = r.Intn(len(y.c.Latches))
		wrong.t.First = slices.Clone(y.t.First)
		wrong.t.First[i] = !y.t.First[i]
		if y.c.Latches[i].Reset == api.ReAny {
			statesOf(t, wrong)
		} else {
			fails(t, "the other value of a latch", wrong, api.ErrBad)
		}
	}
}
