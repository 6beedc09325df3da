package explicit_test

import (
	"math"
	"math/rand"
	"reflect"
	"slices"
	"sync"
	"testing"

	"spiritlevel/api"
	"spiritlevel/explicit"
)

// P1: R1 to R7. That errors come in order, and alone, is tested in wrong_test.go.

// roomy returns the list with used memory behind its length.
func roomy[T any](list []T, behind T) []T {
	return append(slices.Clone(list), behind, behind)[:len(list)]
}

func roomyCircuit(c api.Circuit) api.Circuit {
	c.Latches, c.Ands = roomy(c.Latches, api.Latch{Next: 77, Reset: 7}), roomy(c.Ands, api.And{A: 77, B: 78})
	c.Bads, c.Constraints = roomy(c.Bads, 1), roomy(c.Constraints, 0)
	return c
}

// whole returns a copy of all the memory of a list.
func whole[T any](list []T) []T { return slices.Clone(list[:cap(list)]) }

// wholeCircuit returns a copy with all the memory of the lists.
func wholeCircuit(c api.Circuit) api.Circuit {
	c.Latches, c.Ands = whole(c.Latches), whole(c.Ands)
	c.Bads, c.Constraints = whole(c.Bads), whole(c.Constraints)
	return c
}

func callAll(c api.Circuit, state []bool) {
	explicit.Firsts(c)
	explicit.Reached(c)
	explicit.Verdict(c)
	explicit.Safe(c, state)
}

func TestArgumentsAreOnlyRead(t *testing.T) {
	for plain := range circuits() {
		for _, size := range []int{len(plain.Latches), len(plain.Latches) + 1, 0} {
			c, state := roomyCircuit(plain), roomy(make([]bool, size), x)
			before, stateBefore := wholeCircuit(c), whole(state)
			callAll(c, state)
			if after := wholeCircuit(c); !reflect.DeepEqual(before, after) || !slices.Equal(whole(state), stateBefore) {
				t.Fatalf("%s became %s; the state became %v", short(before), short(after), whole(state))
			}
		}
	}
	for name, plain := range wrongCircuits() {
		c := roomyCircuit(plain)
		before := wholeCircuit(c)
		callAll(c, nil)
		if after := wholeCircuit(c); !reflect.DeepEqual(before, after) {
			t.Errorf("%s: %s became %s", name, short(before), short(after))
		}
	}
}

// What stands behind the length of a list does not count: behind the bad literals there is one that is true, behind the constraints one that is false.
func TestMemoryBehindListsDoesNotMatter(t *testing.T) {
	rnd := rand.New(rand.NewSource(126))
	for range 300 {
		latches := rnd.Intn(4)
		c := drawnCircuit(rnd, rnd.Intn(3), latches)
		agrees(t, "with memory behind the lists", roomyCircuit(c))
		state := roomy(make([]bool, latches), x)
		if is := safeOf(t, c, state[:latches:latches]); is != safeOf(t, c, state) {
			t.Errorf("Safe(%s, %v) is %t; without the memory behind the state it is not", short(c), state, !is)
		}
		failsOf(t, "a state that is too long", c, state[:latches+1], api.ErrArg)
		if t.Failed() {
			return
		}
	}
	c := api.Circuit{Latches: make([]api.Latch, 6, 7)}
	says(t, "room for a seventh latch", c, true, api.Trace{})
	failsOf(t, "room for a second value", api.Circuit{Latches: make([]api.Latch, 2)}, make([]bool, 1, 2), api.ErrArg)
}

// turned changes all values of a list, and of the memory behind it.
func turned(list []bool) {
	list = list[:cap(list)]
	for i := range list {
		list[i] = !list[i]
	}
}

// results are the lists of truth values of all results; each has at least one value.
func results(t *testing.T, c api.Circuit) [][]bool {
	t.Helper()
	firsts := firstsOf(t, c)
	states, _, e := explicit.Reached(c)
	_, run := verdictOf(t, c)
	if e != api.OK || len(run.Inputs) == 0 {
		t.Fatalf("Verdict(%s) = %s; Reached: error %d", short(c), short(run), e)
	}
	return slices.Concat(firsts, states, [][]bool{run.First}, run.Inputs)
}

// sharing are circuits whose results have equal lists, so that one might stand for several ones.
func sharing() []api.Circuit {
	held := api.Circuit{Inputs: 1, Latches: []api.Latch{{Next: 4, Reset: api.ReAny}}, Bads: []int{4}}
	same := api.Circuit{Inputs: 2, Latches: []api.Latch{{Next: 2, Reset: api.ReAny}, {Next: 4, Reset: api.ReAny}}, Bads: []int{11}, Ands: []api.And{{A: 8, B: 6}}}
	return []api.Circuit{held, same, counter(1, 0), counter(2, 2, 2), counter(3, 0, 0, 0), counter(4, 0, 0, 0, 0, 0, 0), counter(3, 2, 1, 0, 2)}
}

// Each list of a result has memory of its own.
func TestResultsShareNoMemory(t *testing.T) {
	for _, c := range sharing() {
		want := results(t, c)
		for i := range want {
			lists := results(t, c)
			turned(lists[i])
			for j, list := range lists {
				if slices.Equal(list, want[j]) == (i == j) {
					t.Errorf("%s: after the list %d was changed, %d is %v; it was %v", short(c), i, j, list, want[j])
				}
			}
		}
		// Nor does the memory behind a list belong to another one.
		lists := results(t, c)
		for _, list := range lists {
			turned(list[len(list):])
		}
		if !equalLists(lists, want) {
			t.Errorf("%s: the results became %v; they were %v", short(c), lists, want)
		}
		// Lists of lists, and of numbers, are new, too.
		firsts := firstsOf(t, c)
		states, frames, _ := explicit.Reached(c)
		_, run := verdictOf(t, c)
		for _, outer := range [][][]bool{firsts, states, run.Inputs} {
			outer = outer[:cap(outer)]
			for i := range outer {
				outer[i] = []bool{x, x, x}
			}
		}
		frames = frames[:cap(frames)]
		for i := range frames {
			frames[i] = -7
		}
		agrees(t, "after results were changed", c)
	}
}

// What was returned stays as it is, also if arguments are changed then.
func TestResultsKeepNoArguments(t *testing.T) {
	for _, plain := range sharing() {
		c := roomyCircuit(plain)
		lists := results(t, c)
		kept := make([][]bool, len(lists))
		for i := range lists {
			kept[i] = slices.Clone(lists[i])
		}
		states, frames, _ := explicit.Reached(c)
		n := slices.Clone(frames)
		for i := range c.Latches {
			c.Latches[i] = api.Latch{Next: 99, Reset: 9}
		}
		clear(c.Ands)
		clear(c.Bads)
		if !equalLists(lists, kept) || !slices.Equal(frames, n) || len(states) != len(n) {
			t.Errorf("%s: after the circuit was changed the results are %v, %v; they were %v, %v", short(plain), lists, frames, kept, n)
		}
	}
}

// Lists of literals, and states, may be parts of one list.
func TestArgumentsMayShareMemory(t *testing.T) {
	literals, latches := []int{4, 6, 3, 5}, []api.Latch{{Next: 7, Reset: api.ReAny}, {Next: 2}, {Next: 4}}
	c := api.Circuit{Inputs: 1, Latches: latches[:2], Bads: literals[:3], Constraints: literals[1:3]}
	agrees(t, "shared", c)
	if !slices.Equal(literals, []int{4, 6, 3, 5}) || !slices.Equal(latches, []api.Latch{{Next: 7, Reset: api.ReAny}, {Next: 2}, {Next: 4}}) {
		t.Errorf("the lists are %v and %v", literals, latches)
	}
	firsts := firstsOf(t, c)
	for _, state := range firsts {
		safe := safeOf(t, c, state)
		saysOf(t, "a state that is a result", c, slices.Clone(state), safe)
	}
}

func TestNilAndEmptyListsAreEqual(t *testing.T) {
	for _, inputs := range []int{0, 1, 10} {
		for _, bads := range [][]int{nil, {}, {1}} {
			for _, constraints := range [][]int{nil, {}, {1}} {
				empty := api.Circuit{Inputs: inputs, Latches: []api.Latch{}, Ands: []api.And{}, Bads: bads, Constraints: constraints}
				for _, c := range []api.Circuit{{Inputs: inputs, Bads: bads, Constraints: constraints}, empty} {
					agrees(t, "nothing", c)
					saysOf(t, "no values", c, nil, len(bads) == 0)
					saysOf(t, "no values", c, []bool{}, len(bads) == 0)
				}
			}
		}
	}
}

// With an error, and for a circuit that is safe, there is nothing else.
func TestZeroValues(t *testing.T) {
	circuitsWithErrors := wrongCircuits()
	circuitsWithErrors["seven latches"] = api.Circuit{Latches: make([]api.Latch, 7), Bads: []int{1}}
	circuitsWithErrors["eleven inputs"] = api.Circuit{Inputs: 11, Bads: []int{1}}
	for name, c := range circuitsWithErrors {
		firsts, e1 := explicit.Firsts(c)
		states, frames, e2 := explicit.Reached(c)
		safe, run, e3 := explicit.Verdict(c)
		is, e4 := explicit.Safe(c, make([]bool, len(c.Latches)))
		if firsts != nil || states != nil || frames != nil || safe || run.First != nil || run.Inputs != nil || is {
			t.Errorf("%s: %v, %v, %v, %t, %s, %t", name, firsts, states, frames, safe, short(run), is)
		}
		if e1 == api.OK || e2 != e1 || e3 != e1 || e4 != e1 {
			t.Errorf("%s: the errors are %d, %d, %d and %d", name, e1, e2, e3, e4)
		}
	}
	c := blink()
	c.Bads = nil
	if safe, run, e := explicit.Verdict(c); !safe || !reflect.ValueOf(run).IsZero() || e != api.OK {
		t.Errorf("Verdict(%s) = %t, %s, %d", short(c), safe, short(run), e)
	}
}

// Calls at the same time have results of their own.
func TestNothingIsKept(t *testing.T) {
	var group sync.WaitGroup
	count := 0
	for c := range circuits() {
		count++
		if count%5 > 0 || len(c.Ands) > 900 {
			continue
		}
		group.Go(func() {
			for range 2 {
				agrees(t, "again", c)
				firsts, _ := explicit.Firsts(c)
				_, run, _ := explicit.Verdict(c)
				for _, list := range slices.Concat(firsts, [][]bool{run.First}, run.Inputs) {
					turned(list)
				}
				callAll(blink(), []bool{x})
			}
		})
	}
	group.Wait()
}

// Any numbers, and lists of any lengths.
func TestNothingPanics(t *testing.T) {
	numbers := []int{-1, 0, 1, 2, 3, 4, 5, 10, 11, 20, 2000, 2001, 2002, -2, -2001, math.MinInt32, math.MaxInt32, math.MinInt, math.MinInt + 1, math.MaxInt - 1, math.MaxInt, math.MaxInt - 6}
	rnd := rand.New(rand.NewSource(127))
	pick := func() int { return numbers[rnd.Intn(len(numbers))] }
	for range 20000 {
		c := api.Circuit{Inputs: rnd.Intn(3), Latches: make([]api.Latch, rnd.Intn(3)), Ands: make([]api.And, rnd.Intn(3))}
		if rnd.Intn(3) == 0 {
			c.Inputs = pick()
		}
		for i := range c.Latches {
			c.Latches[i] = api.Latch{Next: rnd.Intn(4), Reset: rnd.Intn(4)}
		}
		for i := range c.Ands {
			c.Ands[i] = api.And{A: rnd.Intn(3), B: rnd.Intn(2)}
		}
		for range rnd.Intn(3) {
			c.Bads = append(c.Bads, rnd.Intn(4))
		}
		if rnd.Intn(4) == 0 {
			c.Bads = append(c.Bads, pick())
		}
		if rnd.Intn(4) == 0 {
			c.Constraints = append(c.Constraints, pick())
		}
		callAll(c, make([]bool, rnd.Intn(4)))
	}
}
