package explicit_test

import (
	"iter"
	"math/rand"
	"slices"
	"testing"

	"spiritlevel/api"
	"spiritlevel/explicit"
	"spiritlevel/traces"
	"spiritlevel/values"
)

// P12.4, and P12.1 to P12.3 told by all runs: what the functions say agrees with frames (layer 4) and runs (layer 6).

func firstsOf(t *testing.T, c api.Circuit) [][]bool {
	t.Helper()
	list, e := explicit.Firsts(c)
	if e != api.OK {
		t.Fatalf("Firsts(%s): error %d", short(c), e)
	}
	return list
}

// reachedOf returns behind how few frames each state is reached, by its number; states that are not are not there.
func reachedOf(t *testing.T, c api.Circuit) map[int]int {
	t.Helper()
	states, frames, e := explicit.Reached(c)
	if e != api.OK || len(states) != len(frames) {
		t.Fatalf("Reached(%s) = %v, %v, %d", short(c), states, frames, e)
	}
	behind := map[int]int{}
	for i, state := range states {
		if i > 0 && numberOf(states[i-1]) >= numberOf(state) {
			t.Errorf("of %s the states %v and %v are reached in this order", short(c), states[i-1], state)
		}
		behind[numberOf(state)] = frames[i]
	}
	return behind
}

func verdictOf(t *testing.T, c api.Circuit) (bool, api.Trace) {
	t.Helper()
	safe, run, e := explicit.Verdict(c)
	if e != api.OK {
		t.Fatalf("Verdict(%s): error %d", short(c), e)
	}
	return safe, run
}

func safeOf(t *testing.T, c api.Circuit, state []bool) bool {
	t.Helper()
	safe, e := explicit.Safe(c, state)
	if e != api.OK {
		t.Fatalf("Safe(%s, %v): error %d", short(c), state, e)
	}
	return safe
}

// frames yields the inputs of each frame of a state in which the constraints hold, and whether a bad literal is true there.
func frames(c api.Circuit, state []bool) iter.Seq2[[]bool, bool] {
	return func(yield func([]bool, bool) bool) {
		for i := range 1 << c.Inputs {
			inputs := listOf(i, c.Inputs)
			if right, bads, _ := values.Props(c, state, inputs); right && !yield(inputs, slices.Contains(bads, x)) {
				return
			}
		}
	}
}

func TestWhatIsReached(t *testing.T) {
	for c := range circuits() {
		behind, firsts := reachedOf(t, c), firstsOf(t, c)
		none := 0
		for _, n := range behind {
			if n == 0 {
				none++
			}
		}
		for _, state := range firsts {
			if n, is := behind[numberOf(state)]; !is || n != 0 {
				t.Errorf("of %s the first state %v is reached behind %d frames: %t", short(c), state, n, is)
			}
		}
		if none != len(firsts) {
			t.Errorf("of %s there are the first states %v, but %d are reached behind no frames", short(c), firsts, none)
		}
		// Behind how many frames there is a frame to each state, at least.
		least := map[int]int{}
		for s, n := range behind {
			state := listOf(s, len(c.Latches))
			for inputs := range frames(c, state) {
				next, _ := values.Next(c, state, inputs)
				to := numberOf(next)
				if m, is := behind[to]; !is || m > n+1 {
					t.Errorf("of %s %v is reached behind %d frames; its next state %v behind %d: %t", short(c), state, n, next, m, is)
				}
				if m, is := least[to]; !is || n < m {
					least[to] = n
				}
			}
		}
		for s, n := range behind {
			if m, is := least[s]; n > 0 && (!is || m != n-1) {
				t.Errorf("of %s the state %d is reached behind %d frames; what is in front of it behind %d: %t", short(c), s, n, m, is)
			}
		}
		if t.Failed() {
			return
		}
	}
}

func TestFirstStatesAreThoseOfRuns(t *testing.T) {
	for c := range circuits() {
		var want [][]bool
		for s := range 1 << len(c.Latches) {
			state := listOf(s, len(c.Latches))
			if is, e := traces.First(c, state); is && e == api.OK {
				want = append(want, state)
			}
		}
		if list := firstsOf(t, c); !equalLists(list, want) || len(list) == 0 {
			t.Fatalf("Firsts(%s) = %v; want %v", short(c), list, want)
		}
	}
}

func TestSafeJustIfAllFirstStatesAre(t *testing.T) {
	mixed := 0
	for c := range circuits() {
		safe, _ := verdictOf(t, c)
		some, all := false, true
		for _, state := range firstsOf(t, c) {
			is := safeOf(t, c, state)
			some, all = some || is, all && is
		}
		if safe != all {
			t.Fatalf("Verdict(%s) = %t; all first states are safe: %t", short(c), safe, all)
		}
		if some && !all {
			mixed++
		}
	}
	if mixed < 20 {
		t.Errorf("of %d circuits some first states are safe, and others are not", mixed)
	}
}

func TestSafeJustIfNothingBadIsReached(t *testing.T) {
	for c := range circuits() {
		safe, _ := verdictOf(t, c)
		shown := false
		for s := range reachedOf(t, c) {
			for _, bad := range frames(c, listOf(s, len(c.Latches))) {
				shown = shown || bad
			}
		}
		if safe == shown {
			t.Fatalf("Verdict(%s) = %t; a bad literal is true in a frame of a reached state: %t", short(c), safe, shown)
		}
	}
}

// What is safe from a state is told by the circuit that has it as its only first state.
func TestSafeFromAStateIsTheVerdictWithItsResets(t *testing.T) {
	for c := range circuits() {
		for _, state := range someStates(c) {
			other := c
			other.Latches = slices.Clone(c.Latches)
			for i, value := range state {
				other.Latches[i].Reset = api.ReZero
				if value {
					other.Latches[i].Reset = api.ReOne
				}
			}
			safe, _ := verdictOf(t, other)
			if is, again := safeOf(t, c, state), safeOf(t, other, state); is != safe || again != safe {
				t.Fatalf("Safe(%s, %v) = %t, with these resets %t; want %t", short(c), state, is, again, safe)
			}
		}
	}
}

func TestTheLeastWitnessIsOneAndIsCutToItself(t *testing.T) {
	for c := range circuits() {
		safe, run := verdictOf(t, c)
		if safe {
			if !equalTraces(run, api.Trace{}) {
				t.Fatalf("Verdict(%s) = true, %s", short(c), short(run))
			}
			continue
		}
		if bad, e := traces.Witness(c, run); e != api.OK || bad < 0 || bad >= len(c.Bads) {
			t.Fatalf("Witness(%s, %s) = %d, %d", short(c), short(run), bad, e)
		}
		if cut, e := traces.Cut(c, run); !equalTraces(cut, run) || e != api.OK {
			t.Fatalf("Cut(%s, %s) = %s, %d", short(c), short(run), short(cut), e)
		}
		states, e := traces.States(c, run)
		if e != api.OK {
			t.Fatalf("States(%s, %s): error %d", short(c), short(run), e)
		}
		// No state is met again, and each one is reached behind as few frames as it is here.
		behind := reachedOf(t, c)
		for n, state := range states {
			if behind[numberOf(state)] != n {
				t.Fatalf("of %s the least witness %s has the state %v behind %d frames; it is reached behind %d", short(c), short(run), state, n, behind[numberOf(state)])
			}
		}
	}
}

// runs yields all right runs of so many frames, in order.
func runs(c api.Circuit, frames int) iter.Seq[api.Trace] {
	return func(yield func(api.Trace) bool) {
		for s := range 1 << len(c.Latches) {
			state := listOf(s, len(c.Latches))
			if is, _ := traces.First(c, state); !is {
				continue
			}
			for n := range 1 << (frames * c.Inputs) {
				run := api.Trace{First: state}
				all := listOf(n, frames*c.Inputs)
				for range frames {
					run.Inputs = append(run.Inputs, all[:c.Inputs])
					all = all[c.Inputs:]
				}
				if !yield(run) {
					return
				}
			}
		}
	}
}

// leastRun is the first witness of all runs with fewer frames than most, if there is one.
func leastRun(c api.Circuit, most int) (api.Trace, bool) {
	for n := 1; n < most; n++ {
		for run := range runs(c, n) {
			if _, e := traces.Witness(c, run); e == api.OK {
				return run, true
			}
		}
	}
	return api.Trace{}, false
}

// lastStates is behind how few frames, of fewer than most, each state is the last one of a run that is allowed up to the frame before.
func lastStates(c api.Circuit, most int) map[int]int {
	behind := map[int]int{}
	for n := range most {
		for run := range runs(c, n+1) {
			right, _ := traces.Right(c, run)
			states, _ := traces.States(c, run)
			s := numberOf(states[n])
			if _, is := behind[s]; !is && right >= n {
				behind[s] = n
			}
		}
	}
	return behind
}

// agreesWithRuns tests what is said of a circuit by all of its runs that may matter.
func agreesWithRuns(t *testing.T, c api.Circuit) {
	t.Helper()
	// In more frames than there are states one of them would be met again.
	most := 1<<len(c.Latches) + 1
	run, isUnsafe := leastRun(c, most+1)
	says(t, "by all runs", c, !isUnsafe, run)
	behind, want := reachedOf(t, c), lastStates(c, most)
	if len(behind) != len(want) {
		t.Errorf("of %s the states %v are reached; want %v", short(c), behind, want)
	}
	for s, n := range want {
		if m, is := behind[s]; !is || m != n {
			t.Errorf("of %s the state %d is reached behind %d frames: %t; want %d", short(c), s, m, is, n)
		}
	}
}

func TestNoRunWithFewerFramesIsAWitness(t *testing.T) {
	rnd := rand.New(rand.NewSource(123))
	lengths := map[int]int{}
	for round := range 500 {
		latches := rnd.Intn(3)
		c := drawnCircuit(rnd, rnd.Intn(4-latches), latches)
		if round%2 == 0 {
			m := drawnTable(rnd, latches, rnd.Intn(4-latches), 60+rnd.Intn(41), 1)
			c = circuitOf(m, drawnResets(rnd, latches)...)
		}
		agreesWithRuns(t, c)
		if t.Failed() {
			return
		}
		_, run := verdictOf(t, c)
		lengths[len(run.Inputs)]++
	}
	// The witness is the first one of many runs.
	for range 10 {
		c := circuitOf(drawnTable(rnd, 3, 1, 70, 1), 0, 2, 1)
		agreesWithRuns(t, c)
		_, run := verdictOf(t, c)
		lengths[len(run.Inputs)]++
	}
	if lengths[0] < 100 || lengths[1] < 100 || lengths[2] < 20 || lengths[3] < 5 {
		t.Errorf("by the frames of their witnesses the circuits are %v", lengths)
	}
}

// lists yields all lists of up to so many literals of the variables up to the last one.
func lists(last, most int) iter.Seq[[]int] {
	return func(yield func([]int) bool) {
		if !yield(nil) || most == 0 {
			return
		}
		for l := range 2*last + 2 {
			for list := range lists(last, most-1) {
				if !yield(append([]int{l}, list...)) {
					return
				}
			}
		}
	}
}

// All circuits with at most one input and one latch, no gates, at most two bad literals and one constraint.
func TestAllCircuitsOfOneInputAndOneLatch(t *testing.T) {
	tried := 0
	try := func(c api.Circuit) {
		for bads := range lists(lastOf(c), 2) {
			for constraints := range lists(lastOf(c), 1) {
				c.Bads, c.Constraints = bads, constraints
				agrees(t, "one of each", c)
				agreesWithRuns(t, c)
				tried++
			}
		}
	}
	for inputs := range 2 {
		try(api.Circuit{Inputs: inputs})
		for next := range 2*inputs + 4 {
			for reset := range 3 {
				try(api.Circuit{Inputs: inputs, Latches: []api.Latch{{Next: next, Reset: reset}}})
				if t.Failed() {
					return
				}
			}
		}
	}
	if want := 7*3 + 21*5 + 4*3*21*5 + 6*3*43*7; tried != want {
		t.Errorf("%d circuits; want %d", tried, want)
	}
}

// All circuits of two latches without gates whose bad literal is none of 0 and 1, with or without an input that may be a next literal, and with all constraints.
func TestAllCircuitsOfTwoLatches(t *testing.T) {
	for inputs := range 2 {
		last := inputs + 2
		for n := range (2*last + 2) * (2*last + 2) * 9 {
			c := api.Circuit{Inputs: inputs, Latches: []api.Latch{{Next: n / 9 % (2*last + 2), Reset: n % 3}, {Next: n / 9 / (2*last + 2), Reset: n / 3 % 3}}}
			for bad := 2; bad < 2*last+2; bad++ {
				c.Bads = []int{bad}
				for c.Constraints = range lists(last, 1) {
					m := tableOf(c)
					run, isUnsafe := m.wantedWitness(c, wantedFirsts(c), m.witnessed())
					says(t, "two latches", c, !isUnsafe, run)
					if t.Failed() {
						return
					}
				}
			}
		}
	}
}

func TestMoreConstraintsLeaveASafeCircuitSafe(t *testing.T) {
	rnd := rand.New(rand.NewSource(124))
	became := 0
	for c := range circuits() {
		if len(c.Constraints) == api.MaxProps {
			continue
		}
		safe, run := verdictOf(t, c)
		behind := reachedOf(t, c)
		for range 3 {
			more := c
			at := rnd.Intn(len(c.Constraints) + 1)
			more.Constraints = slices.Insert(slices.Clone(c.Constraints), at, rnd.Intn(2*lastOf(c)+2))
			is, other := verdictOf(t, more)
			switch {
			case safe && !is:
				t.Errorf("%s is safe; with the constraint %d it is not", short(c), more.Constraints[at])
			case !safe && is:
				became++
			case !safe && len(other.Inputs) < len(run.Inputs):
				t.Errorf("the least witness of %s has %d frames, with the constraint %d it has %d", short(c), len(run.Inputs), more.Constraints[at], len(other.Inputs))
			}
			// What is reached with more constraints is reached without them.
			for s, n := range reachedOf(t, more) {
				if m, is := behind[s]; !is || m > n {
					t.Errorf("with the constraint %d of %s the state %d is reached behind %d frames; without it behind %d: %t", more.Constraints[at], short(c), s, n, m, is)
				}
			}
			for _, state := range someStates(c) {
				if safeOf(t, c, state) && !safeOf(t, more, state) {
					t.Errorf("%s is safe from %v; with the constraint %d it is not", short(c), state, more.Constraints[at])
				}
			}
		}
		if t.Failed() {
			return
		}
	}
	if became < 100 {
		t.Errorf("%d circuits became safe", became)
	}
}

func TestWithoutBadLiteralsAllAreSafe(t *testing.T) {
	for c := range circuits() {
		for _, c.Bads = range [][]int{nil, {}, {0}, {0, 0}} {
			says(t, "no bad literals", c, true, api.Trace{})
		}
		c.Bads = nil
		for _, state := range someStates(c) {
			saysOf(t, "no bad literals", c, state, true)
		}
		if t.Failed() {
			return
		}
	}
}

// The order of bad literals and constraints, and how often they are told, does not matter.
func TestTheOrderOfBadLiteralsAndConstraintsDoesNotMatter(t *testing.T) {
	rnd := rand.New(rand.NewSource(125))
	for c := range circuits() {
		safe, run := verdictOf(t, c)
		other := c
		other.Bads, other.Constraints = slices.Repeat(c.Bads, 1+50/max(1, len(c.Bads))), slices.Repeat(c.Constraints, 1+50/max(1, len(c.Constraints)))
		rnd.Shuffle(len(other.Bads), func(i, j int) { other.Bads[i], other.Bads[j] = other.Bads[j], other.Bads[i] })
		rnd.Shuffle(len(other.Constraints), func(i, j int) {
			other.Constraints[i], other.Constraints[j] = other.Constraints[j], other.Constraints[i]
		})
		says(t, "in another order", other, safe, run)
		if t.Failed() {
			return
		}
	}
}
