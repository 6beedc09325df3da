package explicit_test

import (
	"fmt"
	"iter"
	"math/rand"
	"slices"
	"testing"

	"spiritlevel/api"
	"spiritlevel/explicit"
)

// What the tests have in common: circuits, drawn or of tables, and a second search, from the chapters' definitions, against which the package is held.

const (
	o = false
	x = true
)

// move is what the frame of a state and inputs is, both told by numbers: whether the constraints hold, whether a bad literal is true, and the next state.
type move struct {
	right, bad bool
	next       int
}

// table has the moves of a circuit, for each state and all inputs.
type table [][]move

// listOf returns the digits of a number to the base 2; the first one is that of the greatest power.
func listOf(n, size int) []bool {
	var list []bool
	for i := range size {
		list = append(list, n&(1<<(size-1-i)) != 0)
	}
	return list
}

func numberOf(list []bool) int {
	n := 0
	for _, value := range list {
		n *= 2
		if value {
			n++
		}
	}
	return n
}

// frameOf gives the values of all variables in a frame, as chapter 4 tells them.
func frameOf(c api.Circuit, state, inputs []bool) []bool {
	frame := slices.Concat([]bool{o}, inputs, state)
	for _, g := range c.Ands {
		frame = append(frame, isTrue(frame, g.A) && isTrue(frame, g.B))
	}
	return frame
}

func isTrue(frame []bool, l int) bool { return frame[l/2] == (l%2 == 0) }

func tableOf(c api.Circuit) table {
	var all table
	for s := range 1 << len(c.Latches) {
		var row []move
		for i := range 1 << c.Inputs {
			frame := frameOf(c, listOf(s, len(c.Latches)), listOf(i, c.Inputs))
			var next []bool
			for _, l := range c.Latches {
				next = append(next, isTrue(frame, l.Next))
			}
			isFalse := func(l int) bool { return !isTrue(frame, l) }
			isBad := func(l int) bool { return isTrue(frame, l) }
			row = append(row, move{!slices.ContainsFunc(c.Constraints, isFalse), slices.ContainsFunc(c.Bads, isBad), numberOf(next)})
		}
		all = append(all, row)
	}
	return all
}

// wantedFirsts are the numbers of the first states, in order.
func wantedFirsts(c api.Circuit) []int {
	var firsts []int
	for s := range 1 << len(c.Latches) {
		isFirst := true
		for i, value := range listOf(s, len(c.Latches)) {
			if c.Latches[i].Reset == api.ReZero && value || c.Latches[i].Reset == api.ReOne && !value {
				isFirst = false
			}
		}
		if isFirst {
			firsts = append(firsts, s)
		}
	}
	return firsts
}

// wantedBehind is behind how few frames each state is reached, or -1 if it is not: frame by frame it asks which states any runs are in.
func (m table) wantedBehind(firsts []int) []int {
	behind := slices.Repeat([]int{-1}, len(m))
	now := make([]bool, len(m))
	for _, s := range firsts {
		now[s] = true
	}
	for n := range api.MaxFrames {
		next := make([]bool, len(m))
		for s := range m {
			if !now[s] {
				continue
			}
			if behind[s] < 0 {
				behind[s] = n
			}
			for _, y := range m[s] {
				if y.right {
					next[y.next] = true
				}
			}
		}
		now = next
	}
	return behind
}

// witnessed tells, for each number of frames and each state, whether there is a witness with so many frames from it on.
func (m table) witnessed() [][]bool {
	all := [][]bool{make([]bool, len(m))}
	for n := range api.MaxFrames {
		row := make([]bool, len(m))
		for s := range m {
			for _, y := range m[s] {
				if y.right && (n == 0 && y.bad || n > 0 && all[n][y.next]) {
					row[s] = true
				}
			}
		}
		all = append(all, row)
	}
	return all
}

// wantedWitness is the least one of the witnesses that there are, if there is any: its frames, its first state and its inputs are chosen one after the other.
func (m table) wantedWitness(c api.Circuit, firsts []int, all [][]bool) (api.Trace, bool) {
	for n, row := range all {
		for _, s := range firsts {
			if !row[s] {
				continue
			}
			run := api.Trace{First: listOf(s, len(c.Latches))}
			for left := n; left > 0; left-- {
				i := slices.IndexFunc(m[s], func(y move) bool {
					return y.right && (left == 1 && y.bad || left > 1 && all[left-1][y.next])
				})
				run.Inputs = append(run.Inputs, listOf(i, c.Inputs))
				s = m[s][i].next
			}
			return run, true
		}
	}
	return api.Trace{}, false
}

func equalLists(a, b [][]bool) bool { return slices.EqualFunc(a, b, slices.Equal[[]bool]) }

func equalTraces(a, b api.Trace) bool {
	return slices.Equal(a.First, b.First) && equalLists(a.Inputs, b.Inputs)
}

// short returns what may be printed of anything.
func short(v any) string {
	s := fmt.Sprintf("%+v", v)
	if len(s) > 600 {
		return s[:600] + ".."
	}
	return s
}

// agrees tests that all functions say of a circuit what the chapter does, for each of its states.
func agrees(t *testing.T, name string, c api.Circuit) {
	t.Helper()
	m, firsts := tableOf(c), wantedFirsts(c)
	var wantFirsts, wantStates [][]bool
	for _, s := range firsts {
		wantFirsts = append(wantFirsts, listOf(s, len(c.Latches)))
	}
	var wantFrames []int
	for s, n := range m.wantedBehind(firsts) {
		if n >= 0 {
			wantStates, wantFrames = append(wantStates, listOf(s, len(c.Latches))), append(wantFrames, n)
		}
	}
	if list, e := explicit.Firsts(c); !equalLists(list, wantFirsts) || e != api.OK {
		t.Errorf("%s: Firsts(%s) = %v, %d; want %v", name, short(c), list, e, wantFirsts)
	}
	if states, frames, e := explicit.Reached(c); !equalLists(states, wantStates) || !slices.Equal(frames, wantFrames) || e != api.OK {
		t.Errorf("%s: Reached(%s) = %v, %v, %d; want %v, %v", name, short(c), states, frames, e, wantStates, wantFrames)
	}
	all := m.witnessed()
	run, isUnsafe := m.wantedWitness(c, firsts, all)
	says(t, name, c, !isUnsafe, run)
	for s, state := range someStates(c) {
		isUnsafe := slices.ContainsFunc(all, func(row []bool) bool { return row[s] })
		saysOf(t, name, c, state, !isUnsafe)
	}
}

// someStates yields the numbers of states, and these: of all, or of each ninth one where there is much to be looked at.
func someStates(c api.Circuit) iter.Seq2[int, []bool] {
	return func(yield func(int, []bool) bool) {
		for s := 0; s < 1<<len(c.Latches); s++ {
			if !yield(s, listOf(s, len(c.Latches))) {
				return
			}
			if (100+len(c.Ands))<<(c.Inputs+len(c.Latches)) > 20000 {
				s += 8
			}
		}
	}
}

// says tests what Verdict says.
func says(t *testing.T, name string, c api.Circuit, safe bool, run api.Trace) {
	t.Helper()
	if is, y, e := explicit.Verdict(c); is != safe || !equalTraces(y, run) || e != api.OK {
		t.Errorf("%s: Verdict(%s) = %t, %s, %d; want %t, %s", name, short(c), is, short(y), e, safe, short(run))
	}
}

// saysOf tests what Safe says of a state.
func saysOf(t *testing.T, name string, c api.Circuit, state []bool, safe bool) {
	t.Helper()
	if is, e := explicit.Safe(c, state); is != safe || e != api.OK {
		t.Errorf("%s: Safe(%s, %v) = %t, %d; want %t", name, short(c), state, is, e, safe)
	}
}

// fails tests that all functions with only a circuit return the error, and nothing else.
func fails(t *testing.T, name string, c api.Circuit, want api.Errno) {
	t.Helper()
	if list, e := explicit.Firsts(c); len(list) > 0 || e != want {
		t.Errorf("%s: Firsts(%s) = %v, %d; want error %d", name, short(c), list, e, want)
	}
	if states, frames, e := explicit.Reached(c); len(states) > 0 || len(frames) > 0 || e != want {
		t.Errorf("%s: Reached(%s) = %v, %v, %d; want error %d", name, short(c), states, frames, e, want)
	}
	if safe, run, e := explicit.Verdict(c); safe || !equalTraces(run, api.Trace{}) || e != want {
		t.Errorf("%s: Verdict(%s) = %t, %s, %d; want error %d", name, short(c), safe, short(run), e, want)
	}
}

// failsOf tests that Safe returns the error, and false.
func failsOf(t *testing.T, name string, c api.Circuit, state []bool, want api.Errno) {
	t.Helper()
	if safe, e := explicit.Safe(c, state); safe || e != want {
		t.Errorf("%s: Safe(%s, %s) = %t, %d; want error %d", name, short(c), short(state), safe, e, want)
	}
}

// blink is the circuit of the chapter's section Examples.
func blink() api.Circuit {
	return api.Circuit{Latches: []api.Latch{{Next: 3}}, Bads: []int{2}}
}

func lastOf(c api.Circuit) int { return c.Inputs + len(c.Latches) + len(c.Ands) }

// and adds a gate to a circuit, and returns its literal.
func and(c *api.Circuit, a, b int) int {
	c.Ands = append(c.Ands, api.And{A: max(a, b), B: min(a, b)})
	return 2 * lastOf(*c)
}

// or adds gates that are true just if one of the literals is.
func or(c *api.Circuit, list []int) int {
	l := 0
	for i, other := range list {
		if i == 0 {
			l = other
		} else {
			l = and(c, l^1, other^1) ^ 1
		}
	}
	return l
}

// circuitOf returns a circuit with the moves of a table, which has as many inputs as its rows are long, and a latch for each of the resets.
func circuitOf(m table, resets ...int) api.Circuit {
	c := api.Circuit{}
	for 1<<c.Inputs < len(m[0]) {
		c.Inputs++
	}
	for _, reset := range resets {
		c.Latches = append(c.Latches, api.Latch{Reset: reset})
	}
	nexts, bads, wrongs := make([][]int, len(resets)), []int{}, []int{}
	for s := range m {
		for i, y := range m[s] {
			// The literal that is true in just this frame.
			l := 1
			for v, value := range slices.Concat(listOf(i, c.Inputs), listOf(s, len(resets))) {
				own := 2*v + 3
				if value {
					own = 2*v + 2
				}
				if l == 1 {
					l = own
				} else {
					l = and(&c, l, own)
				}
			}
			for j, value := range listOf(y.next, len(resets)) {
				if value {
					nexts[j] = append(nexts[j], l)
				}
			}
			if y.bad {
				bads = append(bads, l)
			}
			if !y.right {
				wrongs = append(wrongs, l)
			}
		}
	}
	for j, list := range nexts {
		c.Latches[j].Next = or(&c, list)
	}
	c.Bads, c.Constraints = []int{or(&c, bads)}, []int{or(&c, wrongs) ^ 1}
	return c
}

// drawnTable has any moves; of 100 frames so many are right, and at most so many of all show a bad literal.
func drawnTable(rnd *rand.Rand, latches, inputs, right, bads int) table {
	m := make(table, 1<<latches)
	for s := range m {
		for range 1 << inputs {
			m[s] = append(m[s], move{rnd.Intn(100) < right, o, rnd.Intn(len(m))})
		}
	}
	for range bads {
		row := m[rnd.Intn(len(m))]
		row[rnd.Intn(len(row))].bad = x
	}
	return m
}

func drawnResets(rnd *rand.Rand, n int) []int {
	list := make([]int, n)
	for i := range list {
		list[i] = rnd.Intn(3)
	}
	return list
}

// drawnCircuit has as many inputs and latches, and any gates.
func drawnCircuit(rnd *rand.Rand, inputs, latches int) api.Circuit {
	c := api.Circuit{Inputs: inputs, Latches: make([]api.Latch, latches)}
	for range rnd.Intn(3 * (1 + inputs + latches)) {
		own := 2 * (1 + lastOf(c))
		and(&c, rnd.Intn(own), rnd.Intn(own))
	}
	last := lastOf(c)
	for i := range c.Latches {
		c.Latches[i] = api.Latch{Next: rnd.Intn(2*last + 2), Reset: rnd.Intn(3)}
	}
	// Gates are false more often than true: so a bad literal is seldom true, and a constraint seldom fails.
	for range rnd.Intn(4) {
		c.Bads = append(c.Bads, 2*max(rnd.Intn(last+1), rnd.Intn(last+1)))
	}
	for range rnd.Intn(3) {
		c.Constraints = append(c.Constraints, 2*max(rnd.Intn(last+1), rnd.Intn(last+1))+1)
	}
	return c
}

// counter counts the frames in its latches, the first one of which has the greatest power, from the number of its resets on; the bad literal is true where all latches are, and inputs do not matter.
func counter(inputs int, resets ...int) api.Circuit {
	c := api.Circuit{Inputs: inputs}
	for _, reset := range resets {
		c.Latches = append(c.Latches, api.Latch{Reset: reset})
	}
	carry := 1
	for i := range slices.Backward(c.Latches) {
		own := 2 * (1 + inputs + i)
		both := and(&c, carry, own)
		c.Latches[i].Next = and(&c, both^1, and(&c, carry^1, own^1)^1)
		carry = both
	}
	c.Bads = []int{carry}
	return c
}

// full has 1,000 variables, of which 6 are latches and 4 are inputs, and 100 bad literals and constraints.
func full() api.Circuit {
	rnd := rand.New(rand.NewSource(121))
	c := counter(4, 0, 0, 0, 0, 0, 2)
	bad := c.Bads[0]
	for lastOf(c) < api.MaxVars {
		and(&c, 2*(1+rnd.Intn(10)), 2*lastOf(c)+rnd.Intn(2))
	}
	// The last constraint, of the last gate, is that the first input is false, or the second one true.
	c.Ands[len(c.Ands)-1] = api.And{A: 5, B: 2}
	c.Bads, c.Constraints = append(slices.Repeat([]int{0}, 99), bad), append(slices.Repeat([]int{1}, 99), 2001)
	return c
}

// edges are circuits of the least and the greatest sizes.
func edges() []api.Circuit {
	return []api.Circuit{
		{}, {Bads: []int{1}}, {Bads: []int{0}}, {Bads: []int{1}, Constraints: []int{0}}, blink(),
		{Inputs: 10, Bads: []int{20}}, {Inputs: 10, Latches: []api.Latch{}, Bads: []int{2, 21}, Constraints: []int{3}},
		{Inputs: 9, Latches: []api.Latch{{Next: 18}}, Bads: []int{20}},
		{Latches: make([]api.Latch, 6), Bads: []int{1}}, {Latches: slices.Repeat([]api.Latch{{Next: 5, Reset: api.ReAny}}, 6), Bads: []int{12}},
		{Inputs: 4, Latches: []api.Latch{{Next: 2}, {Next: 10}, {Next: 12, Reset: api.ReOne}, {Next: 14}, {Next: 16, Reset: api.ReAny}, {Next: 18}}, Bads: []int{20}, Constraints: []int{21, 19}},
		counter(0, 0, 0, 0, 0, 0, 0), counter(0, 1, 0, 0, 0, 0, 0), counter(1, 0, 0, 2, 2, 0, 0), counter(0, 2, 2, 2, 2, 2, 2), full(),
	}
}

// circuits yields small circuits of all sizes, also of those at the edges of what is small.
func circuits() iter.Seq[api.Circuit] {
	return func(yield func(api.Circuit) bool) {
		rnd := rand.New(rand.NewSource(122))
		var list []api.Circuit
		for latches := range 7 {
			for inputs := range 11 - latches {
				// Of the greater ones there are fewer, as there is more to be looked at.
				for range 1 + 60>>max(0, latches+inputs-2) {
					list = append(list, drawnCircuit(rnd, inputs, latches))
				}
			}
		}
		// Witnesses are longer in tables, with more states than inputs, and few frames that show a bad literal.
		for range 1000 {
			latches := rnd.Intn(7)
			m := drawnTable(rnd, latches, rnd.Intn(min(2, 6-latches)+1), 60+rnd.Intn(41), 1+rnd.Intn(3))
			list = append(list, circuitOf(m, drawnResets(rnd, latches)...))
		}
		for _, c := range slices.Concat(list, edges()) {
			if !yield(c) {
				return
			}
		}
	}
}
