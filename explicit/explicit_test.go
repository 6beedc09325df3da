package explicit_test

import (
	"slices"
	"testing"

	"spiritlevel/api"
	"spiritlevel/explicit"
)

// P12.1 to P12.3: what the chapter says of circuits by hand, and of drawn ones. Its consequences are in agree_test.go, what is not valid is in wrong_test.go.

// reaches tests what Reached says.
func reaches(t *testing.T, name string, c api.Circuit, states [][]bool, frames []int) {
	t.Helper()
	if list, n, e := explicit.Reached(c); !equalLists(list, states) || !slices.Equal(n, frames) || e != api.OK {
		t.Errorf("%s: Reached(%s) = %v, %v, %d; want %v, %v", name, short(c), list, n, e, states, frames)
	}
}

func TestExampleOfTheChapter(t *testing.T) {
	c := blink()
	both := [][]bool{{o}, {x}}
	reaches(t, "the latch", c, both, []int{0, 1})
	says(t, "the latch", c, false, api.Trace{First: []bool{o}, Inputs: make([][]bool, 2)})
	c.Constraints = []int{3}
	reaches(t, "with the constraint", c, both, []int{0, 1})
	says(t, "with the constraint", c, true, api.Trace{})
	agrees(t, "with the constraint", c)
}

// The circuit of nothing has one state, and one list of inputs.
func TestCircuitsOfNothing(t *testing.T) {
	run := api.Trace{Inputs: make([][]bool, 1)}
	for _, z := range []struct {
		bads, constraints []int
		safe              bool
	}{
		{nil, nil, true}, {[]int{0}, nil, true}, {[]int{1}, nil, false}, {[]int{0, 1}, nil, false}, {[]int{1}, []int{1}, false}, {[]int{1}, []int{0}, true}, {[]int{1}, []int{1, 0}, true}, {[]int{0, 0}, []int{0}, true},
	} {
		c := api.Circuit{Bads: z.bads, Constraints: z.constraints}
		if list, e := explicit.Firsts(c); len(list) != 1 || len(list[0]) != 0 || e != api.OK {
			t.Errorf("Firsts(%+v) = %v, %d", c, list, e)
		}
		reaches(t, "nothing", c, [][]bool{{}}, []int{0})
		saysOf(t, "nothing", c, nil, z.safe)
		saysOf(t, "nothing", c, []bool{}, z.safe)
		if z.safe {
			says(t, "nothing", c, true, api.Trace{})
		} else {
			says(t, "nothing", c, false, run)
		}
	}
}

func TestFirsts(t *testing.T) {
	for _, z := range []struct {
		resets []int
		want   [][]bool
	}{
		{[]int{api.ReZero}, [][]bool{{o}}},
		{[]int{api.ReOne}, [][]bool{{x}}},
		{[]int{api.ReAny}, [][]bool{{o}, {x}}},
		{[]int{api.ReOne, api.ReZero}, [][]bool{{x, o}}},
		{[]int{api.ReAny, api.ReAny}, [][]bool{{o, o}, {o, x}, {x, o}, {x, x}}},
		{[]int{api.ReAny, api.ReOne, api.ReAny}, [][]bool{{o, x, o}, {o, x, x}, {x, x, o}, {x, x, x}}},
		{[]int{api.ReOne, api.ReAny, api.ReZero, api.ReAny, api.ReZero, api.ReOne}, [][]bool{{x, o, o, o, o, x}, {x, o, o, x, o, x}, {x, x, o, o, o, x}, {x, x, o, x, o, x}}},
	} {
		c := api.Circuit{Inputs: 1}
		for _, reset := range z.resets {
			c.Latches = append(c.Latches, api.Latch{Reset: reset})
		}
		if list, e := explicit.Firsts(c); !equalLists(list, z.want) || e != api.OK {
			t.Errorf("with the resets %v, Firsts = %v, %d; want %v", z.resets, list, e, z.want)
		}
	}
	c := api.Circuit{Latches: slices.Repeat([]api.Latch{{Next: 1, Reset: api.ReAny}}, 6)}
	list, e := explicit.Firsts(c)
	if len(list) != 64 || e != api.OK {
		t.Fatalf("of six latches with any value Firsts = %v, %d", list, e)
	}
	for s := range list {
		if !slices.Equal(list[s], listOf(s, 6)) {
			t.Errorf("the first state %d is %v", s, list[s])
		}
	}
}

// Constraints, and what is next, do not matter for first states.
func TestFirstStatesWithoutNext(t *testing.T) {
	c := api.Circuit{Inputs: 1, Latches: []api.Latch{{Next: 5, Reset: api.ReAny}, {Next: 2, Reset: api.ReOne}}, Bads: []int{4}, Constraints: []int{0}}
	reaches(t, "no constraint holds", c, [][]bool{{o, x}, {x, x}}, []int{0, 0})
	if list, e := explicit.Firsts(c); !equalLists(list, [][]bool{{o, x}, {x, x}}) || e != api.OK {
		t.Errorf("Firsts(%+v) = %v, %d", c, list, e)
	}
	says(t, "no constraint holds", c, true, api.Trace{})
}

func TestReached(t *testing.T) {
	// From state to state: 0 to 3 and 1, 3 to 2, 2 to itself; 1 is a state behind which there is nothing.
	m := table{
		{{x, o, 3}, {x, o, 1}},
		{{o, o, 0}, {o, o, 0}},
		{{x, o, 2}, {o, o, 0}},
		{{o, o, 0}, {x, o, 2}},
	}
	reaches(t, "from 0", circuitOf(m, api.ReZero, api.ReZero), [][]bool{{o, o}, {o, x}, {x, o}, {x, x}}, []int{0, 1, 2, 1})
	reaches(t, "from 1", circuitOf(m, api.ReZero, api.ReOne), [][]bool{{o, x}}, []int{0})
	reaches(t, "from 2", circuitOf(m, api.ReOne, api.ReZero), [][]bool{{x, o}}, []int{0})
	reaches(t, "from 3", circuitOf(m, api.ReOne, api.ReOne), [][]bool{{x, o}, {x, x}}, []int{1, 0})
	reaches(t, "from 0 and 2", circuitOf(m, api.ReAny, api.ReZero), [][]bool{{o, o}, {o, x}, {x, o}, {x, x}}, []int{0, 1, 0, 1})
	reaches(t, "from 1 and 3", circuitOf(m, api.ReAny, api.ReOne), [][]bool{{o, x}, {x, o}, {x, x}}, []int{0, 1, 0})
}

// The counter has a state more in each frame, up to 64, and comes back to the first one then.
func TestCounters(t *testing.T) {
	for latches := 1; latches <= 6; latches++ {
		most := 1 << latches
		for from := range most {
			var resets []int
			for _, value := range listOf(from, latches) {
				resets = append(resets, map[bool]int{o: api.ReZero, x: api.ReOne}[value])
			}
			c := counter(from%3, resets...)
			var states [][]bool
			var frames []int
			for s := range most {
				states, frames = append(states, listOf(s, latches)), append(frames, (s-from+most)%most)
			}
			reaches(t, "a counter", c, states, frames)
			run := api.Trace{First: listOf(from, latches), Inputs: slices.Repeat([][]bool{make([]bool, c.Inputs)}, most-from)}
			says(t, "a counter", c, false, run)
			// It stops in the frame in which all latches are true; and then in one in which just the last one has to be.
			c.Constraints = []int{c.Bads[0] ^ 1}
			says(t, "a counter that never ends", c, true, api.Trace{})
			reaches(t, "a counter that never ends", c, states[from:], frames[from:])
			c.Constraints = []int{2*(c.Inputs+latches) + 1}
			reaches(t, "a counter that stops", c, states[from:from|1+1], frames[from:from|1+1])
		}
	}
}

// Tables of one or two latches, and one input, of which most have another witness that comes first in another order.
func TestLeastWitnesses(t *testing.T) {
	stop := move{o, o, 0}
	for _, z := range []struct {
		name   string
		m      table
		resets []int
		first  []bool
		inputs []bool
	}{
		{"fewer frames from a later first state", table{{{x, o, 1}, stop}, {{x, x, 0}, stop}, {stop, {x, x, 0}}, {stop, stop}}, []int{api.ReAny, api.ReZero}, []bool{x, o}, []bool{x}},
		{"fewer frames from a later first state than through it", table{{{x, o, 2}, stop}, {stop, stop}, {{x, o, 3}, stop}, {{x, x, 0}, stop}}, []int{api.ReAny, api.ReZero}, []bool{x, o}, []bool{o, o}},
		{"one frame from the last first state", table{{{x, o, 3}, stop}, {stop, stop}, {stop, stop}, {stop, {x, x, 0}}}, []int{api.ReAny, api.ReAny}, []bool{x, x}, []bool{x}},
		{"as many frames from an earlier first state, with later inputs", table{{stop, {x, o, 3}}, {{x, o, 3}, stop}, {stop, stop}, {stop, {x, x, 0}}}, []int{api.ReZero, api.ReAny}, []bool{o, o}, []bool{x, x}},
		{"earlier inputs at first, and later ones then", table{{{x, o, 3}, {x, o, 1}}, {{x, x, 0}, stop}, {stop, stop}, {stop, {x, x, 0}}}, []int{0, 0}, []bool{o, o}, []bool{o, x}},
		{"earlier inputs by a later state", table{{{x, o, 2}, {x, o, 1}}, {{x, x, 0}, stop}, {{x, x, 0}, stop}, {stop, stop}}, []int{0, 0}, []bool{o, o}, []bool{o, o}},
		{"the first inputs lead on, the later ones to a bad literal", table{{{x, o, 1}, {x, x, 0}}, {{x, x, 0}, stop}, {stop, stop}, {stop, stop}}, []int{0, 0}, []bool{o, o}, []bool{x}},
		{"the first inputs lead to more frames", table{{{x, o, 1}, {x, o, 2}}, {{x, o, 2}, stop}, {stop, {x, x, 0}}, {stop, stop}}, []int{0, 0}, []bool{o, o}, []bool{x, x}},
		{"the first inputs lead back", table{{{x, o, 0}, {x, o, 3}}, {stop, stop}, {stop, stop}, {{x, o, 0}, {x, x, 3}}}, []int{0, 0}, []bool{o, o}, []bool{x, x}},
		{"the first inputs lead nowhere", table{{{x, o, 1}, {x, o, 3}}, {stop, stop}, {stop, stop}, {{x, x, 0}, {x, x, 3}}}, []int{0, 0}, []bool{o, o}, []bool{x, o}},
		{"both inputs lead to the same state", table{{{x, o, 3}, {x, o, 3}}, {stop, stop}, {stop, stop}, {{x, x, 0}, {x, x, 3}}}, []int{0, 0}, []bool{o, o}, []bool{o, o}},
		{"two first states lead to the same state", table{{stop, {x, o, 3}}, {{x, o, 3}, {x, o, 3}}, {{x, o, 3}, stop}, {{x, x, 0}, {x, x, 3}}}, []int{api.ReAny, 0}, []bool{o, o}, []bool{x, o}},
		{"a bad literal where the constraints do not hold", table{{{o, x, 1}, {x, o, 1}}, {{o, x, 2}, {x, o, 2}}, {{o, x, 0}, {x, x, 0}}, {stop, stop}}, []int{0, 0}, []bool{o, o}, []bool{x, x, x}},
		{"by no frame in which the constraints do not hold", table{{{o, o, 3}, {x, o, 1}}, {{x, o, 2}, {o, o, 3}}, {{o, o, 3}, {x, o, 3}}, {{x, x, 0}, stop}}, []int{0, 0}, []bool{o, o}, []bool{x, o, x, o}},
		{"two ways of three frames", table{{{x, o, 2}, {x, o, 1}}, {{x, o, 3}, stop}, {stop, {x, o, 3}}, {{x, x, 0}, {x, x, 0}}}, []int{0, 0}, []bool{o, o}, []bool{o, x, o}},
		{"one latch", table{{{x, o, 0}, {x, o, 1}}, {stop, {x, x, 0}}}, []int{0}, []bool{o}, []bool{x, x}},
		{"one latch with any value", table{{{x, o, 0}, {x, o, 1}}, {stop, {x, x, 0}}}, []int{api.ReAny}, []bool{x}, []bool{x}},
	} {
		run := api.Trace{First: z.first}
		for _, value := range z.inputs {
			run.Inputs = append(run.Inputs, []bool{value})
		}
		c := circuitOf(z.m, z.resets...)
		says(t, z.name, c, false, run)
		agrees(t, z.name, c)
	}
}

// The first input that differs counts, and that of an earlier frame before that of a later one.
func TestTheOrderOfInputs(t *testing.T) {
	c := api.Circuit{Inputs: 3, Bads: []int{2, 4, 6}}
	says(t, "one of three inputs", c, false, api.Trace{Inputs: [][]bool{{o, o, x}}})
	c.Constraints = []int{7}
	says(t, "one of the first two inputs", c, false, api.Trace{Inputs: [][]bool{{o, x, o}}})
	c.Constraints = []int{7, 5}
	says(t, "the first input", c, false, api.Trace{Inputs: [][]bool{{x, o, o}}})
	c.Constraints = []int{6, 4}
	says(t, "the last two inputs", c, false, api.Trace{Inputs: [][]bool{{o, x, x}}})
	c.Constraints = []int{7, 5, 3}
	says(t, "no input", c, true, api.Trace{})
	for i := range 10 {
		list := make([]bool, 10)
		list[i] = x
		says(t, "one of ten inputs", api.Circuit{Inputs: 10, Bads: []int{2*i + 2}}, false, api.Trace{Inputs: [][]bool{list}})
	}
	// Each latch has the value of the input before: the bad latch is the last one, so it takes six frames to it.
	shift := api.Circuit{Inputs: 1, Latches: []api.Latch{{Next: 2}, {Next: 4}, {Next: 6}, {Next: 8}, {Next: 10}, {Next: 12}}, Bads: []int{14}}
	says(t, "six latches one behind the other", shift, false, api.Trace{First: make([]bool, 6), Inputs: [][]bool{{x}, {o}, {o}, {o}, {o}, {o}, {o}}})
	agrees(t, "six latches one behind the other", shift)
	shift.Latches[2].Reset = api.ReAny
	says(t, "the third one has any value", shift, false, api.Trace{First: []bool{o, o, x, o, o, o}, Inputs: slices.Repeat([][]bool{{o}}, 4)})
	shift.Latches[0].Reset = api.ReAny
	says(t, "the first one has any value, too", shift, false, api.Trace{First: []bool{o, o, x, o, o, o}, Inputs: slices.Repeat([][]bool{{o}}, 4)})
	shift.Latches[2].Reset = api.ReZero
	says(t, "the first one has any value", shift, false, api.Trace{First: []bool{x, o, o, o, o, o}, Inputs: slices.Repeat([][]bool{{o}}, 6)})
}

// Whichever bad literal is true, the witness is the same.
func TestEachBadLiteralAndConstraint(t *testing.T) {
	for _, n := range []int{1, 2, 50, 100} {
		for i := range n {
			c := counter(0, 0, 0)
			bad := c.Bads[0]
			c.Bads = slices.Repeat([]int{0}, n)
			says(t, "no bad literal", c, true, api.Trace{})
			c.Bads[i] = bad
			run := api.Trace{First: []bool{o, o}, Inputs: make([][]bool, 4)}
			says(t, "one bad literal", c, false, run)
			c.Constraints = slices.Repeat([]int{1}, n)
			says(t, "constraints that hold", c, false, run)
			c.Constraints[i] = bad ^ 1
			says(t, "one constraint that fails", c, true, api.Trace{})
		}
	}
}

// Resets do not matter for Safe, and states that are not reached are states, too.
func TestSafe(t *testing.T) {
	// From 0 to 1 and back; 2 shows a bad literal; 3 leads to 2 just by the inputs with which the constraints do not hold.
	m := table{{{x, o, 1}}, {{x, o, 0}}, {{x, x, 0}}, {{o, x, 2}}}
	for _, resets := range [][]int{{0, 0}, {0, 1}, {1, 0}, {1, 1}, {2, 2}, {0, 2}, {2, 1}} {
		c := circuitOf(m, resets...)
		for s, safe := range []bool{x, x, o, x} {
			saysOf(t, "a table", c, listOf(s, 2), safe)
		}
	}
	c := blink()
	for _, reset := range []int{api.ReZero, api.ReOne, api.ReAny} {
		c.Latches[0].Reset = reset
		saysOf(t, "the latch", c, []bool{o}, false)
		saysOf(t, "the latch", c, []bool{x}, false)
	}
	c.Constraints = []int{3}
	saysOf(t, "the latch with the constraint", c, []bool{o}, true)
	saysOf(t, "the latch with the constraint", c, []bool{x}, true)
	c.Constraints, c.Latches[0].Next = nil, 2
	saysOf(t, "a latch that stays as it is", c, []bool{o}, true)
	saysOf(t, "a latch that stays as it is", c, []bool{x}, false)
	// All 64 states lead to the last one, behind up to 63 frames.
	long := counter(0, 0, 0, 0, 0, 0, 0)
	for s := range 64 {
		saysOf(t, "a counter", long, listOf(s, 6), false)
	}
}

// Circuits of all sizes.
func TestAllIsAsDefined(t *testing.T) {
	frames, safe := map[int]int{}, 0
	for c := range circuits() {
		agrees(t, "a circuit", c)
		if t.Failed() {
			return
		}
		is, run, _ := explicit.Verdict(c)
		if is {
			safe++
		} else {
			frames[len(run.Inputs)]++
		}
	}
	// There are enough of each kind.
	if safe < 200 || frames[1] < 200 || frames[2] < 100 || frames[3] < 40 || frames[4] < 20 || frames[5] < 10 || len(frames) < 12 {
		t.Errorf("%d circuits are safe; by the frames of witnesses the others are %v", safe, frames)
	}
}
