package ternary_test

import (
	"math"
	"math/rand"
	"reflect"
	"slices"
	"sync"
	"testing"

	"spiritlevel/api"
	"spiritlevel/ternary"
)

// P1: R1 to R7. That errors come in order, and alone, is tested beside the promises.

// roomy returns the list with used memory behind its length.
func roomy[T any](list []T, behind T) []T {
	return append(slices.Clone(list), behind, behind)[:len(list)]
}

func roomyFrame(f frame) frame {
	f.state, f.inputs = roomy(f.state, 7), roomy(f.inputs, 7)
	f.c.Latches, f.c.Ands = roomy(f.c.Latches, api.Latch{Next: 77, Reset: 7}), roomy(f.c.Ands, api.And{A: 77, B: 78})
	f.c.Bads, f.c.Constraints = roomy(f.c.Bads, 77), roomy(f.c.Constraints, 77)
	return f
}

// whole returns a copy of the frame with all the memory of its lists.
func whole(f frame) frame {
	f.state, f.inputs = slices.Clone(f.state[:cap(f.state)]), slices.Clone(f.inputs[:cap(f.inputs)])
	f.c.Latches, f.c.Ands = slices.Clone(f.c.Latches[:cap(f.c.Latches)]), slices.Clone(f.c.Ands[:cap(f.c.Ands)])
	f.c.Bads, f.c.Constraints = slices.Clone(f.c.Bads[:cap(f.c.Bads)]), slices.Clone(f.c.Constraints[:cap(f.c.Constraints)])
	return f
}

func callAll(f frame) {
	ternary.All(f.c, f.state, f.inputs)
	ternary.Next(f.c, f.state, f.inputs)
	ternary.First(f.c)
	ternary.Covers(f.state, f.inputs)
	ternary.Covers(f.state, f.state)
}

func TestArgumentsAreOnlyRead(t *testing.T) {
	for plain := range frames() {
		for _, spoil := range []func(f *frame){
			func(*frame) {},
			func(f *frame) { f.c.Inputs = -1 },
			func(f *frame) { f.state = f.state[:len(f.state)/2] },
			func(f *frame) { f.inputs = f.inputs[:len(f.inputs)/2] },
			func(f *frame) { f.state = append(f.state, 3) },
			func(f *frame) {
				for i := range f.inputs {
					f.inputs[i] = 255
				}
			},
		} {
			f := roomyFrame(plain)
			spoil(&f)
			before := whole(f)
			callAll(f)
			if after := whole(f); !reflect.DeepEqual(before, after) {
				t.Fatalf("the frame %+v became %+v", before, after)
			}
		}
	}
}

// turned changes all values of a list, and of the memory behind it.
func turned(list []uint8) {
	list = list[:cap(list)]
	for i := range list {
		list[i] += 100
	}
}

func TestResultsShareNoMemory(t *testing.T) {
	// In these circuits results are equal to arguments, or to each other.
	for _, plain := range []frame{
		{example(), []uint8{q}, nil},
		{api.Circuit{Latches: []api.Latch{{Next: 2}, {Next: 4, Reset: api.ReAny}}}, []uint8{o, q}, nil},
		{api.Circuit{Inputs: 2, Latches: []api.Latch{{Next: 2}, {Next: 4, Reset: api.ReOne}}}, []uint8{o, x}, []uint8{o, x}},
	} {
		f := roomyFrame(plain)
		before := whole(f)
		results := func() [][]uint8 { return [][]uint8{allOf(t, f), nextOf(t, f), firstOf(t, f.c)} }
		want := results()
		for i := range want {
			changed := results()
			turned(changed[i])
			for j, list := range changed {
				if slices.Equal(list, want[j]) == (i == j) {
					t.Errorf("%+v: after the result %d was changed, %d is %v; it was %v", f, i, j, list, want[j])
				}
			}
			if again := results(); !reflect.DeepEqual(again, want) || !reflect.DeepEqual(before, whole(f)) {
				t.Errorf("after the result %d was changed, the frame is %+v, and results are %v", i, whole(f), again)
			}
		}
		kept := results()
		turned(f.state)
		turned(f.inputs)
		if !reflect.DeepEqual(kept, want) {
			t.Errorf("after the arguments were changed, results are %v; they were %v", kept, want)
		}
	}
}

// One list may be the state and the inputs, or both lists of Covers.
func TestArgumentsMayShareMemory(t *testing.T) {
	list := []uint8{x, q, x}
	c := api.Circuit{Inputs: 2, Latches: []api.Latch{{Next: 2}, {Next: 10}}, Ands: []api.And{{A: 7, B: 2}, {A: 8, B: 2}}}
	shared, apart := allOf(t, frame{c, list[:2], list[:2]}), allOf(t, frame{c, []uint8{x, q}, []uint8{x, q}})
	if !slices.Equal(shared, apart) || !slices.Equal(list, []uint8{x, q, x}) {
		t.Errorf("All = %v; want %v; the list is %v", shared, apart, list)
	}
	wide := []uint8{q, q, x}
	if !covers(t, wide[:2], wide[1:]) || covers(t, wide[1:], wide[:2]) || !covers(t, wide, wide) {
		t.Errorf("Covers of parts of %v", wide)
	}
	all := make([]uint8, 12, 40)
	if got := allOf(t, frame{api.Circuit{Inputs: 5, Latches: make([]api.Latch, 6)}, all[6:], all[1:6]}); len(got) != 12 || &got[0] == &all[0] {
		t.Errorf("All of parts of one list = %v", got)
	}
}

func TestNilAndEmptyListsAreEqual(t *testing.T) {
	empty := api.Circuit{Latches: []api.Latch{}, Ands: []api.And{}, Bads: []int{}, Constraints: []int{}}
	for _, f := range []frame{{}, {empty, nil, nil}, {empty, []uint8{}, []uint8{}}, {api.Circuit{}, []uint8{}, nil}, {api.Circuit{}, nil, []uint8{}}} {
		if all := allOf(t, f); !slices.Equal(all, []uint8{o}) {
			t.Errorf("All(%+v) = %v", f, all)
		}
		if next := nextOf(t, f); len(next) != 0 {
			t.Errorf("Next(%+v) = %v", f, next)
		}
		if first := firstOf(t, f.c); len(first) != 0 {
			t.Errorf("First(%+v) = %v", f.c, first)
		}
		if !covers(t, f.state, f.inputs) || !covers(t, f.inputs, f.state) {
			t.Errorf("Covers(%v, %v) is false", f.state, f.inputs)
		}
	}
	coversFails(t, []uint8{}, []uint8{o}, api.ErrArg)
	coversFails(t, []uint8{o}, []uint8{}, api.ErrArg)
}

func TestNothingPanics(t *testing.T) {
	numbers := []int{-1, 0, 1, 2, 3, 4, 5, 2000, 2001, 2002, -2, -2001, math.MinInt32, math.MaxInt32, math.MinInt, math.MinInt + 1, math.MaxInt - 1, math.MaxInt}
	r := rand.New(rand.NewSource(54))
	pick := func() int { return numbers[r.Intn(len(numbers))] }
	bytes := func() []uint8 {
		list := make([]uint8, r.Intn(4))
		for i := range list {
			list[i] = uint8(r.Intn(256) >> r.Intn(8))
		}
		return list
	}
	for range 20000 {
		c := api.Circuit{Inputs: r.Intn(3), Latches: make([]api.Latch, r.Intn(3)), Ands: make([]api.And, r.Intn(3)), Bads: []int{pick()}, Constraints: []int{pick()}}
		if r.Intn(3) == 0 {
			c.Inputs = pick()
		}
		for i := range c.Latches {
			c.Latches[i] = api.Latch{Next: pick(), Reset: pick()}
		}
		for i := range c.Ands {
			c.Ands[i] = api.And{A: pick(), B: pick()}
		}
		callAll(frame{c, bytes(), bytes()})
	}
}

// Calls at the same time have results of their own.
func TestNothingIsKept(t *testing.T) {
	var group sync.WaitGroup
	for range 4 {
		for f := range frames() {
			group.Add(1)
			go func() {
				defer group.Done()
				all, _ := ternary.All(f.c, f.state, f.inputs)
				callAll(frame{example(), []uint8{q}, nil})
				next, _ := ternary.Next(f.c, f.state, f.inputs)
				if !slices.Equal(all, wanted(f, evens(f.c))) || !slices.Equal(next, wanted(f, nexts(f.c))) {
					t.Errorf("of %+v All = %v, Next = %v", f, all, next)
				}
			}()
		}
	}
	group.Wait()
}
