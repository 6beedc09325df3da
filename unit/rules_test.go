package unit_test

import (
	"math"
	"math/rand"
	"slices"
	"sync"
	"testing"

	"spiritlevel/api"
	"spiritlevel/unit"
)

// P1: R1 to R7. That errors come in order, and alone, is tested in wrong_test.go.

// roomy returns the list with used memory behind its length.
func roomy(list []int, behind ...int) []int {
	return append(slices.Clone(list), behind...)[:len(list)]
}

// withRoom returns the instance with used memory behind all of its lists.
func withRoom(y instance) instance {
	var l [][]int
	for _, c := range y.l {
		l = append(l, roomy(c, 2, 3, 9, -1))
	}
	// Behind the clauses one stands that would be false.
	l = append(l, []int{}, []int{2})[:len(l)]
	a := api.Assign{Vars: y.a.Vars, Trail: roomy(y.a.Trail, 3, 2, 13, -1), Starts: roomy(y.a.Starts, 1, 2, 0, -1)}
	return instance{a, l}
}

// memory is a copy of all that an instance has, also behind its lists.
func memory(y instance) instance {
	var l [][]int
	for _, c := range y.l[:cap(y.l)] {
		l = append(l, slices.Clone(c[:cap(c)]))
	}
	a := api.Assign{Vars: y.a.Vars, Trail: slices.Clone(y.a.Trail[:cap(y.a.Trail)]), Starts: slices.Clone(y.a.Starts[:cap(y.a.Starts)])}
	return instance{a, l}
}

func areSame(y, z instance) bool {
	return isSame(y.a, z.a) && slices.EqualFunc(y.l, z.l, slices.Equal[[]int])
}

func fill(list []int) {
	list = list[:cap(list)]
	for i := range list {
		list[i] = -77
	}
}

// callAll calls both functions, State with each clause.
func callAll(y instance) {
	for _, c := range y.l {
		unit.State(y.a, c)
	}
	unit.Run(y.a, y.l)
}

func TestArgumentsAreOnlyRead(t *testing.T) {
	rnd := rand.New(rand.NewSource(167))
	list := append(smallInstances(rnd, 1000), wrongInstances()...)
	for _, plain := range list {
		y := withRoom(plain)
		before := memory(y)
		callAll(y)
		if !areSame(memory(y), before) {
			t.Fatalf("%v became %v", before, memory(y))
		}
	}
}

// What stands behind the length of a list does not count.
func TestMemoryBehindListsDoesNotMatter(t *testing.T) {
	rnd := rand.New(rand.NewSource(168))
	for _, plain := range append(smallInstances(rnd, 1000), wrongInstances()...) {
		y := withRoom(plain)
		runs(t, y.a, y.l)
		for _, c := range y.l {
			tells(t, y.a, c)
		}
		if t.Failed() {
			return
		}
	}
}

// An argument that changes behind the call changes no result, nor the other way round; nor do two results share memory, or the lists of one.
func TestResultsShareNoMemory(t *testing.T) {
	rnd := rand.New(rand.NewSource(169))
	for _, plain := range smallInstances(rnd, 1000) {
		want, _ := run(t, plain.a, plain.l)
		y := withRoom(plain)
		before := memory(y)
		b, _ := run(t, y.a, y.l)
		c, _ := run(t, y.a, y.l)
		fill(b.Trail)
		if !slices.Equal(b.Starts, want.Starts) {
			t.Fatalf("after the literals of a result of %v were changed its starts are %v", plain, b.Starts)
		}
		fill(b.Starts)
		if !isSame(c, want) || !areSame(memory(y), before) {
			t.Fatalf("after a result of %v was changed another one is %v, and the arguments %v", plain, c, y)
		}
		fill(y.a.Trail)
		fill(y.a.Starts)
		for _, l := range y.l {
			fill(l)
		}
		if !isSame(c, want) {
			t.Fatalf("after %v was changed its result is %v; it was %v", plain, c, want)
		}
	}
}

// The lists of arguments may be one and the same, or parts of one.
func TestArgumentsMayShareMemory(t *testing.T) {
	list := []int{2, 4, 6, 8, 10, 12}
	before := slices.Clone(list)
	for _, y := range []instance{
		{api.Assign{Vars: 6, Trail: list[:2], Starts: list[:0]}, [][]int{list, list[2:], list[3:4]}},
		{api.Assign{Vars: 6, Trail: list, Starts: list[:2]}, [][]int{list, list[:0], list[3:4]}},
		{api.Assign{Vars: 6, Trail: list[:4], Starts: list[:1]}, [][]int{list[4:5], list[4:5], list[5:]}},
		{api.Assign{Vars: 6, Trail: list, Starts: list}, [][]int{list}},
	} {
		runs(t, y.a, y.l)
		for _, c := range y.l {
			tells(t, y.a, c)
		}
	}
	if !slices.Equal(list, before) {
		t.Errorf("%v became %v", before, list)
	}
}

func TestNilAndEmptyListsAreEqual(t *testing.T) {
	for _, none := range [][]int{nil, {}} {
		for _, noClauses := range [][][]int{nil, {}} {
			for vars := range 3 {
				a := api.Assign{Vars: vars, Trail: none, Starts: none}
				runs(t, a, noClauses)
				runs(t, a, [][]int{none})
				runs(t, a, [][]int{{2}, none})
				tells(t, a, none)
			}
			runs(t, api.Assign{Vars: 2, Trail: []int{5}, Starts: none}, noClauses)
			runs(t, api.Assign{Vars: -1, Trail: none, Starts: none}, noClauses)
		}
		tells(t, api.Assign{Vars: 2, Trail: []int{5}, Starts: none}, []int{2, 4})
	}
}

// Calls at the same time have results of their own.
func TestNothingIsKept(t *testing.T) {
	var group sync.WaitGroup
	list := smallInstances(rand.New(rand.NewSource(170)), 300)
	for i := range 8 {
		group.Go(func() {
			for j := range list {
				y := list[(i*61+j)%len(list)]
				runs(t, y.a, y.l)
				for _, c := range y.l {
					tells(t, y.a, c)
				}
				b, _, _ := unit.Run(y.a, y.l)
				fill(b.Trail)
				fill(b.Starts)
				unit.Run(api.Assign{Vars: -1}, y.l)
			}
		})
	}
	group.Wait()
}

// Any numbers, and lists of any lengths.
func TestNothingPanics(t *testing.T) {
	numbers := []int{-1, 0, 1, 2, 3, 4, 5, 6, 7, 8, 9, 3999, 4000, 4001, 7999, 8000, 8001, 8002, -2, -3, -8000, math.MinInt32, math.MaxInt32, math.MinInt, math.MinInt + 1, math.MinInt + 2, math.MinInt / 2, math.MaxInt / 2, math.MaxInt - 1, math.MaxInt}
	rnd := rand.New(rand.NewSource(171))
	pick := func() int {
		if rnd.Intn(10) == 0 {
			return numbers[rnd.Intn(len(numbers))]
		}
		return rnd.Intn(12)
	}
	list := func(most int) []int {
		var l []int
		for range rnd.Intn(most) {
			l = append(l, pick())
		}
		if rnd.Intn(3) > 0 {
			slices.Sort(l)
		}
		return l
	}
	right := 0
	for range 100000 {
		a := api.Assign{Vars: pick(), Trail: list(4), Starts: list(3)}
		var l [][]int
		for range rnd.Intn(4) {
			l = append(l, list(4))
		}
		runs(t, a, l)
		tells(t, a, list(5))
		if t.Failed() {
			return
		}
		if _, _, e := unit.Run(a, l); e == api.OK {
			right++
		}
	}
	if right < 3000 {
		t.Errorf("%d of 100000 were right", right)
	}
}
