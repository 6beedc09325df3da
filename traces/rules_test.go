package traces_test

import (
	"math"
	"math/rand"
	"reflect"
	"slices"
	"sync"
	"testing"

	"spiritlevel/api"
	"spiritlevel/traces"
)

// P1: R1 to R7. That errors come in order, and alone, is tested in wrong_test.go.

// roomy returns the list with used memory behind its length.
func roomy[T any](list []T, behind T) []T {
	return append(slices.Clone(list), behind, behind)[:len(list)]
}

func roomyRun(y run) run {
	y.t.First, y.t.Inputs = roomy(y.t.First, x), roomy(y.t.Inputs, []bool{x, o, x})
	for i, inputs := range y.t.Inputs {
		y.t.Inputs[i] = roomy(inputs, x)
	}
	y.c.Latches, y.c.Ands = roomy(y.c.Latches, api.Latch{Next: 77, Reset: 7}), roomy(y.c.Ands, api.And{A: 77, B: 78})
	y.c.Bads, y.c.Constraints = roomy(y.c.Bads, 77), roomy(y.c.Constraints, 77)
	return y
}

// all returns a copy of all the memory of a list.
func all[T any](list []T) []T { return slices.Clone(list[:cap(list)]) }

// whole returns a copy of the run with all the memory of its lists.
func whole(y run) run {
	y.t.First, y.t.Inputs = all(y.t.First), all(y.t.Inputs)
	for i, inputs := range y.t.Inputs {
		y.t.Inputs[i] = all(inputs)
	}
	y.c.Latches, y.c.Ands = all(y.c.Latches), all(y.c.Ands)
	y.c.Bads, y.c.Constraints = all(y.c.Bads), all(y.c.Constraints)
	return y
}

func callAll(y run) {
	traces.First(y.c, y.t.First)
	traces.Check(y.c, y.t)
	traces.States(y.c, y.t)
	traces.Right(y.c, y.t)
	traces.Witness(y.c, y.t)
	traces.Cut(y.c, y.t)
}

func TestArgumentsAreOnlyRead(t *testing.T) {
	for plain := range runs() {
		spoilt(plain, func(how string, y run) {
			y = roomyRun(y)
			before := whole(y)
			callAll(y)
			if after := whole(y); !reflect.DeepEqual(before, after) {
				t.Fatalf("%s: the run %+v became %+v", how, before, after)
			}
		})
	}
}

// turned changes all values of a list, and of the memory behind it.
func turned(list []bool) {
	list = list[:cap(list)]
	for i := range list {
		list[i] = !list[i]
	}
}

// sharing are runs whose results are equal to arguments, or to parts of each other.
func sharing() []run {
	c := api.Circuit{Inputs: 2, Latches: []api.Latch{{Next: 6}, {Next: 8, Reset: api.ReAny}}, Bads: []int{8}}
	held := c
	held.Latches = []api.Latch{{Next: 2, Reset: api.ReAny}, {Next: 4, Reset: api.ReAny}}
	list := []bool{o, x}
	return []run{
		{c, api.Trace{First: []bool{o, x}, Inputs: [][]bool{{o, x}}}},
		{c, api.Trace{First: []bool{o, x}, Inputs: [][]bool{{o, x}, {o, x}, {o, x}}}},
		{c, api.Trace{First: list, Inputs: [][]bool{list, list, list}}},
		{held, api.Trace{First: []bool{x, o}, Inputs: [][]bool{{x, o}, {o, x}, {o, x}, {o, x}, {x, x}}}},
		{held, api.Trace{First: list, Inputs: [][]bool{list, list, list}}},
	}
}

// results are the lists of all results, those of the outer lists among them.
func results(t *testing.T, y run) (outer [][][]bool, inner [][]bool) {
	cut, is := cutOf(t, y)
	if !is {
		t.Fatalf("Cut(%+v): there is no frame", y)
	}
	states := statesOf(t, y)
	return [][][]bool{states, cut.Inputs}, slices.Concat(states, cut.Inputs, [][]bool{cut.First})
}

func TestResultsShareNoMemory(t *testing.T) {
	for _, plain := range sharing() {
		for _, y := range []run{plain, roomyRun(plain)} {
			before := whole(y)
			_, want := results(t, y)
			for i := range want {
				_, lists := results(t, y)
				turned(lists[i])
				for j, list := range lists {
					if slices.Equal(list, want[j]) == (i == j) {
						t.Errorf("%+v: after the list %d was changed, %d is %v; it was %v", y, i, j, list, want[j])
					}
				}
			}
			// Outer lists are of their own, too.
			outer, _ := results(t, y)
			for _, lists := range outer {
				lists = lists[:cap(lists)]
				for i := range lists {
					lists[i] = []bool{x, x, x}
				}
			}
			if _, again := results(t, y); !reflect.DeepEqual(again, want) || !reflect.DeepEqual(before, whole(y)) {
				t.Errorf("after results were changed, the run is %+v, and results are %v", whole(y), again)
			}
			_, kept := results(t, y)
			turned(y.t.First)
			for i := range y.t.Inputs {
				turned(y.t.Inputs[i])
				y.t.Inputs[i] = nil
			}
			if !reflect.DeepEqual(kept, want) {
				t.Errorf("after the arguments were changed, results are %v; they were %v", kept, want)
			}
		}
	}
}

// The lists of a run may be parts of one list.
func TestArgumentsMayShareMemory(t *testing.T) {
	c := api.Circuit{Inputs: 2, Latches: []api.Latch{{Next: 2}, {Next: 8}}, Ands: []api.And{{A: 7, B: 2}}, Bads: []int{10}}
	list := []bool{o, o, x, x}
	shared := run{c, api.Trace{First: list[:2], Inputs: [][]bool{list[1:3], list[2:], list[:2]}}}
	apart := run{c, api.Trace{First: []bool{o, o}, Inputs: [][]bool{{o, x}, {x, x}, {o, o}}}}
	if a, b := statesOf(t, shared), statesOf(t, apart); !equalLists(a, b) {
		t.Errorf("States = %v; want %v", a, b)
	}
	frames := wanted(apart)
	for _, y := range []run{shared, apart} {
		shows(t, y, wantedRight(frames), wantedWitness(frames), wantedCut(frames))
	}
	if wantedCut(frames) != 2 || !slices.Equal(list, []bool{o, o, x, x}) {
		t.Errorf("the run is cut to %d frames; the list is %v", wantedCut(frames), list)
	}
}

func TestNilAndEmptyListsAreEqual(t *testing.T) {
	empty := api.Circuit{Latches: []api.Latch{}, Ands: []api.And{}, Bads: []int{}, Constraints: []int{}}
	for _, c := range []api.Circuit{{}, empty} {
		for _, first := range [][]bool{nil, {}} {
			for _, inputs := range [][][]bool{{nil}, {{}}, {nil, {}}, {{}, nil, {}}} {
				y := run{c, api.Trace{First: first, Inputs: inputs}}
				if list := statesOf(t, y); len(list) != len(inputs) || len(slices.Concat(list...)) > 0 {
					t.Errorf("States(%+v) = %v", y, list)
				}
				shows(t, y, len(inputs), -1, 0)
				y.c.Bads = []int{1}
				shows(t, y, len(inputs), 0, 1)
				if !firstOf(t, c, first) {
					t.Errorf("First(%+v, %v) is false", c, first)
				}
			}
		}
	}
	fails(t, "a list of no values for a latch", run{example(), api.Trace{First: []bool{}, Inputs: [][]bool{nil}}}, api.ErrBad)
	fails(t, "no list for an input", run{api.Circuit{Inputs: 1}, api.Trace{Inputs: [][]bool{nil}}}, api.ErrBad)
}

func TestNothingPanics(t *testing.T) {
	numbers := []int{-1, 0, 1, 2, 3, 4, 5, 2000, 2001, 2002, -2, -2001, math.MinInt32, math.MaxInt32, math.MinInt, math.MinInt + 1, math.MaxInt - 1, math.MaxInt}
	r := rand.New(rand.NewSource(65))
	pick := func() int { return numbers[r.Intn(len(numbers))] }
	for range 20000 {
		c := api.Circuit{Inputs: r.Intn(3), Latches: make([]api.Latch, r.Intn(3)), Ands: make([]api.And, r.Intn(3)), Bads: []int{pick()}, Constraints: []int{pick()}}
		if r.Intn(3) == 0 {
			c.Inputs = pick()
		}
		for i := range c.Latches {
			c.Latches[i] = api.Latch{Next: r.Intn(4), Reset: r.Intn(4)}
		}
		for i := range c.Ands {
			c.Ands[i] = api.And{A: pick(), B: pick()}
		}
		y := run{c, api.Trace{First: bits(r, r.Intn(3))}}
		for range r.Intn(4) {
			y.t.Inputs = append(y.t.Inputs, bits(r, r.Intn(3)))
		}
		callAll(y)
	}
}

// Calls at the same time have results of their own.
func TestNothingIsKept(t *testing.T) {
	var group sync.WaitGroup
	for range 4 {
		for y := range runs() {
			if lastOf(y.c) == api.MaxVars {
				continue
			}
			group.Add(1)
			go func() {
				defer group.Done()
				states, _ := traces.States(y.c, y.t)
				callAll(run{example(), api.Trace{First: []bool{o}, Inputs: make([][]bool, 3)}})
				right, _ := traces.Right(y.c, y.t)
				want := wanted(y)
				if !slices.EqualFunc(states, want, func(state []bool, f frame) bool { return slices.Equal(state, f.state) }) || right != wantedRight(want) {
					t.Errorf("of %+v States = %v, Right = %d", y, states, right)
				}
			}()
		}
	}
	group.Wait()
}
