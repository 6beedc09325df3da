package assign_test

import (
	"math"
	"math/rand"
	"slices"
	"sync"
	"testing"

	"spiritlevel/api"
	"spiritlevel/assign"
)

// P1: R1 to R7. That errors come in order, and alone, is tested in wrong_test.go.

// roomy returns the list with used memory behind its length.
func roomy(list []int, behind ...int) []int {
	return append(slices.Clone(list), behind...)[:len(list)]
}

// withRoom returns the assignment with used memory behind its lists.
func withRoom(a api.Assign) api.Assign {
	return api.Assign{Vars: a.Vars, Trail: roomy(a.Trail, 10, 2, 13, -1), Starts: roomy(a.Starts, 1, 2, 0, -1)}
}

// all returns a copy of all the memory of a list.
func all(list []int) []int { return slices.Clone(list[:cap(list)]) }

// memory is a copy of all that an assignment has, also behind its lists.
func memory(a api.Assign) api.Assign {
	return api.Assign{Vars: a.Vars, Trail: all(a.Trail), Starts: all(a.Starts)}
}

// fill changes the lists of an assignment, and the memory behind them.
func fill(a api.Assign) {
	for _, list := range [][]int{a.Trail, a.Starts} {
		list = list[:cap(list)]
		for i := range list {
			list[i] = -77
		}
	}
}

// callAll calls each function with the assignment.
func callAll(a api.Assign, lit, level int) {
	assign.Check(a)
	assign.New(a.Vars)
	assign.Decide(a, lit)
	assign.Imply(a, lit)
	assign.Value(a, lit)
	assign.Level(a, lit)
	assign.Undo(a, level)
}

// made are the results of all functions that make an assignment, where there is one.
func made(a api.Assign, lit, level int) []api.Assign {
	b, _ := assign.Decide(a, lit)
	c, _ := assign.Imply(a, lit)
	d, _ := assign.Undo(a, level)
	e, _ := assign.New(a.Vars)
	return []api.Assign{b, c, d, e}
}

func TestArgumentsAreOnlyRead(t *testing.T) {
	for vars := range 5 {
		for _, plain := range allAssigns(vars) {
			a := withRoom(plain)
			before := memory(a)
			for lit := range 2*vars + 3 {
				callAll(a, lit, lit-1)
			}
			if !isSame(memory(a), before) {
				t.Fatalf("%v became %v", before, memory(a))
			}
		}
	}
	for _, plain := range wrongAssigns() {
		a := withRoom(plain)
		before := memory(a)
		for lit := range 12 {
			callAll(a, lit, lit-1)
		}
		if !isSame(memory(a), before) {
			t.Fatalf("%v became %v", before, memory(a))
		}
	}
}

// What stands behind the length of a list does not count.
func TestMemoryBehindListsDoesNotMatter(t *testing.T) {
	for _, plain := range allAssigns(3) {
		for _, behind := range []int{-1, 0, 1, 2, 3, 6, 7, 8, 9} {
			a := api.Assign{Vars: 3, Trail: roomy(plain.Trail, behind, behind), Starts: roomy(plain.Starts, behind, behind)}
			checks(t, a)
			for _, l := range literals(4) {
				withLiteral(t, a, l)
			}
			for level := range 5 {
				undoes(t, a, level)
			}
			if t.Failed() {
				return
			}
		}
	}
	a := api.Assign{Vars: 3, Trail: roomy([]int{2}, 4), Starts: []int{1}}
	if e := assign.Check(a); e != api.ErrBad {
		t.Errorf("with room for the second literal it is %d", e)
	}
}

// An argument that changes behind the call changes no result, nor the other way round.
func TestResultsShareNoMemoryWithArguments(t *testing.T) {
	const vars = 4
	for _, plain := range allAssigns(vars) {
		for i := range 2 * vars {
			lit, level := i+2, i%(len(plain.Starts)+1)
			a := withRoom(plain)
			results, want := made(a, lit, level), made(plain, lit, level)
			fill(a)
			for j, b := range results {
				if !isSame(b, want[j]) {
					t.Fatalf("after %v was changed a result of %d and %d is %v; it was %v", plain, lit, level, b, want[j])
				}
			}
			a = withRoom(plain)
			before := memory(a)
			for _, b := range made(a, lit, level) {
				fill(b)
			}
			if !isSame(memory(a), before) {
				t.Fatalf("after results of %d and %d were changed %v is %v", lit, level, plain, memory(a))
			}
		}
	}
}

// Nor do two results share memory, or the lists of one.
func TestResultsShareNoMemoryWithEachOther(t *testing.T) {
	const vars = 4
	for _, plain := range allAssigns(vars) {
		for i := range 2 * vars {
			lit, level := i+2, i%(len(plain.Starts)+1)
			a := withRoom(plain)
			results, want := append(made(a, lit, level), made(a, lit, level)...), made(plain, lit, level)
			for j, b := range results {
				starts := slices.Clone(b.Starts)
				fill(api.Assign{Trail: b.Trail})
				if !slices.Equal(b.Starts, starts) {
					t.Fatalf("after the literals of a result of %v, %d and %d were changed its starts are %v", plain, lit, level, b.Starts)
				}
				fill(b)
				for k, c := range results[j+1:] {
					if !isSame(c, want[(j+1+k)%len(want)]) {
						t.Fatalf("after a result of %v, %d and %d was changed another one is %v", plain, lit, level, c)
					}
				}
			}
		}
	}
}

// Two literals put behind the same assignment do not meet.
func TestOneAssignmentMayGoOnInTwoWays(t *testing.T) {
	a, _ := assign.New(100)
	for v := 1; v <= 97; v++ {
		a = decided(t, a, 2*v)
		if v%3 == 0 {
			a, _ = assign.Undo(a, v/3)
		}
		b, c, d := implied(t, a, 199), decided(t, a, 200), implied(t, a, 201)
		size := len(a.Trail)
		if b.Trail[size] != 199 || c.Trail[size] != 200 || d.Trail[size] != 201 || len(a.Trail) != size {
			t.Fatalf("%v went on as %v, %v and %v", a, b, c, d)
		}
		e, f := decided(t, b, 200), decided(t, decided(t, b, 201), 197)
		if len(e.Starts) != len(b.Starts)+1 || len(f.Starts) != len(b.Starts)+2 || e.Trail[size+1] != 200 || f.Trail[size+1] != 201 {
			t.Fatalf("%v went on as %v and %v", b, e, f)
		}
	}
}

// The lists of an argument may be one and the same, or parts of one.
func TestArgumentsMayShareMemory(t *testing.T) {
	list := []int{2, 4, 6, 8, 10, 12}
	before := slices.Clone(list)
	for _, a := range []api.Assign{{Vars: 6, Trail: list, Starts: list[:2]}, {Vars: 6, Trail: list[1:5], Starts: list[:1]}, {Vars: 6, Trail: list[:3], Starts: list[:1]}, {Vars: 6, Trail: list, Starts: list}, {Vars: 6, Trail: list[:5], Starts: list[1:2]}} {
		checks(t, a)
		for _, l := range literals(6) {
			withLiteral(t, a, l)
		}
		for level := range 4 {
			undoes(t, a, level)
		}
	}
	if !slices.Equal(list, before) {
		t.Errorf("%v became %v", before, list)
	}
}

func TestNilAndEmptyListsAreEqual(t *testing.T) {
	for _, trail := range [][]int{nil, {}} {
		for _, starts := range [][]int{nil, {}} {
			a := api.Assign{Vars: 2, Trail: trail, Starts: starts}
			checks(t, a)
			for _, n := range around(2) {
				withLiteral(t, a, n)
			}
			for level := -1; level <= 1; level++ {
				undoes(t, a, level)
			}
			a = api.Assign{Vars: 2, Trail: []int{5}, Starts: starts}
			checks(t, a)
			for _, n := range around(2) {
				withLiteral(t, a, n)
			}
			undoes(t, a, 0)
			checks(t, api.Assign{Vars: 2, Trail: trail, Starts: []int{0}})
		}
	}
}

// Calls at the same time have results of their own.
func TestNothingIsKept(t *testing.T) {
	var group sync.WaitGroup
	assigns := allAssigns(3)
	for i := range 8 {
		group.Go(func() {
			for j := range assigns {
				a := assigns[(i*61+j)%len(assigns)]
				checks(t, a)
				for _, l := range literals(3) {
					withLiteral(t, a, l)
				}
				for level := range len(a.Starts) + 2 {
					undoes(t, a, level)
				}
				for _, b := range made(a, 2+j%6, 0) {
					fill(b)
				}
				callAll(api.Assign{Vars: -1}, j, i)
			}
		})
	}
	group.Wait()
}

// Any numbers, and lists of any lengths.
func TestNothingPanics(t *testing.T) {
	numbers := []int{-1, 0, 1, 2, 3, 4, 5, 6, 7, 8, 9, 3999, 4000, 4001, 7999, 8000, 8001, 8002, -2, -3, -8000, math.MinInt32, math.MaxInt32, math.MinInt, math.MinInt + 1, math.MinInt + 2, math.MinInt / 2, math.MaxInt / 2, math.MaxInt - 1, math.MaxInt}
	rnd := rand.New(rand.NewSource(147))
	pick := func() int {
		if rnd.Intn(4) == 0 {
			return numbers[rnd.Intn(len(numbers))]
		}
		return rnd.Intn(12)
	}
	list := func(most int) []int {
		var l []int
		for range rnd.Intn(most) {
			l = append(l, pick())
		}
		return l
	}
	for range 100000 {
		a := api.Assign{Vars: pick(), Trail: list(5), Starts: list(4)}
		if rnd.Intn(2) == 0 {
			slices.Sort(a.Starts)
		}
		checks(t, a)
		news(t, a.Vars)
		withLiteral(t, a, pick())
		undoes(t, a, pick())
		if t.Failed() {
			return
		}
	}
}
