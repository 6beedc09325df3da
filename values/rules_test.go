package values_test

import (
	"math/rand"
	"reflect"
	"slices"
	"sync"
	"testing"

	"spiritlevel/api"
	"spiritlevel/values"
)

// P1: R1 to R7. That errors come in order, and alone, is tested beside the promises.

// roomy returns the list with used memory behind its length.
func roomy[T any](list []T, behind T) []T {
	return append(slices.Clone(list), behind, behind)[:len(list)]
}

func roomyFrame(f frame) frame {
	f.state, f.inputs = roomy(f.state, true), roomy(f.inputs, true)
	f.c.Latches, f.c.Ands = roomy(f.c.Latches, api.Latch{Next: 77, Reset: 7}), roomy(f.c.Ands, api.And{A: 77, B: 78})
	f.c.Bads, f.c.Constraints = roomy(f.c.Bads, 77), roomy(f.c.Constraints, 77)
	return f
}

// whole returns a copy of the frame with all the memory of its lists.
func whole(f frame) frame {
	f.state, f.inputs = slices.Clone(f.state[:cap(f.state)]), slices.Clone(f.inputs[:cap(f.inputs)])
	f.c.Latches, f.c.Ands = slices.Clone(f.c.Latches[:cap(f.c.Latches)]), slices.Clone(f.c.Ands[:cap(f.c.Ands)])
	f.c.Bads, f.c.Constraints = slices.Clone(f.c.Bads[:cap(f.c.Bads)]), slices.Clone(f.c.Constraints[:cap(f.c.Constraints)])
	return f
}

func callAll(f frame) {
	values.All(f.c, f.state, f.inputs)
	values.Next(f.c, f.state, f.inputs)
	values.Props(f.c, f.state, f.inputs)
}

func TestArgumentsAreOnlyRead(t *testing.T) {
	for plain := range frames() {
		for _, spoil := range []func(f *frame){
			func(*frame) {},
			func(f *frame) { f.c.Inputs++ },
			func(f *frame) { f.c.Inputs = -1 },
			func(f *frame) { f.state = f.state[:len(f.state)/2] },
		} {
			f := roomyFrame(plain)
			spoil(&f)
			before := whole(f)
			callAll(f)
			if after := whole(f); !reflect.DeepEqual(before, after) {
				t.Fatalf("the frame %+v became %+v", before, after)
			}
		}
	}
	list := roomy([]bool{false, true, true}, true)
	for l := -1; l < 8; l++ {
		values.Of(list, l)
	}
	if !slices.Equal(list[:cap(list)][:5], []bool{false, true, true, true, true}) {
		t.Errorf("the values became %v", list[:cap(list)])
	}
}

// turned changes all values of a list, and of the memory behind it.
func turned(list []bool) {
	list = list[:cap(list)]
	for i := range list {
		list[i] = !list[i]
	}
}

func TestResultsShareNoMemory(t *testing.T) {
	// In these circuits results are equal to arguments, or to parts of each other.
	for _, plain := range []frame{
		{example(), []bool{false}, []bool{true, true}},
		{api.Circuit{Latches: []api.Latch{{Next: 2}, {Next: 4}}, Bads: []int{2, 4}}, []bool{true, false}, nil},
		{api.Circuit{Inputs: 2, Latches: []api.Latch{{Next: 2}, {Next: 4}}, Bads: []int{2, 4}, Constraints: []int{1}}, []bool{true, false}, []bool{true, false}},
	} {
		f := roomyFrame(plain)
		before := whole(f)
		results := func() [][]bool {
			_, bads := propsOf(t, f)
			return [][]bool{allOf(t, f), nextOf(t, f), bads}
		}
		want := results()
		for i := range want {
			lists := results()
			turned(lists[i])
			for j, list := range lists {
				if slices.Equal(list, want[j]) == (i == j && len(list) > 0) {
					t.Errorf("%+v: after the result %d was changed, %d is %v; it was %v", f, i, j, list, want[j])
				}
			}
			if again := results(); !reflect.DeepEqual(again, want) || !reflect.DeepEqual(before, whole(f)) {
				t.Errorf("after the result %d was changed, the frame is %+v, and results are %v", i, whole(f), again)
			}
		}
		kept := results()
		turned(f.state)
		turned(f.inputs)
		if !reflect.DeepEqual(kept, want) {
			t.Errorf("after the arguments were changed, results are %v; they were %v", kept, want)
		}
	}
}

// One list may be the state and the inputs.
func TestArgumentsMayShareMemory(t *testing.T) {
	list := []bool{true, false, true}
	c := api.Circuit{Inputs: 2, Latches: []api.Latch{{Next: 2}, {Next: 8}}, Ands: []api.And{{A: 7, B: 2}}}
	shared, apart := allOf(t, frame{c, list[:2], list[:2]}), allOf(t, frame{c, []bool{true, false}, []bool{true, false}})
	if !slices.Equal(shared, apart) || !slices.Equal(list, []bool{true, false, true}) {
		t.Errorf("All = %v; want %v; the list is %v", shared, apart, list)
	}
	c = api.Circuit{Inputs: 5, Latches: make([]api.Latch, 6)}
	all := make([]bool, 12, 40)
	if got, e := values.All(c, all[6:], all[1:6]); len(got) != 12 || e != api.OK || &got[0] == &all[0] {
		t.Errorf("All of parts of one list = %v, %d", got, e)
	}
}

func TestNilAndEmptyListsAreEqual(t *testing.T) {
	empty := api.Circuit{Latches: []api.Latch{}, Ands: []api.And{}, Bads: []int{}, Constraints: []int{}}
	for _, f := range []frame{{}, {empty, nil, nil}, {empty, []bool{}, []bool{}}, {api.Circuit{}, []bool{}, nil}, {api.Circuit{}, nil, []bool{}}} {
		if all := allOf(t, f); !slices.Equal(all, []bool{false}) {
			t.Errorf("All(%+v) = %v", f, all)
		}
		if next := nextOf(t, f); len(next) != 0 {
			t.Errorf("Next(%+v) = %v", f, next)
		}
		if right, bads := propsOf(t, f); !right || len(bads) != 0 {
			t.Errorf("Props(%+v) = %t, %v", f, right, bads)
		}
	}
}

func TestNothingPanics(t *testing.T) {
	numbers := append([]int{0, 1, 2, 3, 4, 2000, 2001}, farOff...)
	r := rand.New(rand.NewSource(14))
	pick := func() int { return numbers[r.Intn(len(numbers))] }
	for range 20000 {
		c := api.Circuit{Inputs: r.Intn(3), Latches: make([]api.Latch, r.Intn(3)), Ands: make([]api.And, r.Intn(3)), Bads: []int{pick()}, Constraints: []int{pick()}}
		if r.Intn(3) == 0 {
			c.Inputs = pick()
		}
		for i := range c.Latches {
			c.Latches[i] = api.Latch{Next: pick(), Reset: pick()}
		}
		for i := range c.Ands {
			c.Ands[i] = api.And{A: pick(), B: pick()}
		}
		callAll(frame{c, bits(r, r.Intn(4)), bits(r, r.Intn(4))})
		values.Of(bits(r, r.Intn(4)), pick())
	}
}

// Calls at the same time have results of their own.
func TestNothingIsKept(t *testing.T) {
	var group sync.WaitGroup
	for range 4 {
		for f := range frames() {
			group.Add(1)
			go func() {
				defer group.Done()
				all, _ := values.All(f.c, f.state, f.inputs)
				callAll(frame{example(), []bool{true}, []bool{true, true}})
				next, _ := values.Next(f.c, f.state, f.inputs)
				if !slices.Equal(all, wantedValues(f, evens(f.c))) || !slices.Equal(next, wantedValues(f, nexts(f.c))) {
					t.Errorf("of %+v All = %v, Next = %v", f, all, next)
				}
			}()
		}
	}
	group.Wait()
}
