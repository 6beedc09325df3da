package assign_test

import (
	"math"
	"slices"
	"testing"

	"spiritlevel/api"
	"spiritlevel/assign"
)

// What is not valid, in the order of the errors.

func wrongVars() []int {
	return []int{-1, -2, -4000, -4001, 4001, 4002, 8000, 20000, math.MinInt32, math.MaxInt32, math.MinInt, math.MinInt + 1, math.MinInt / 2, math.MaxInt / 2, math.MaxInt/2 + 1, math.MaxInt - 1, math.MaxInt}
}

// wrongNumbers are no literals of at most five variables.
func wrongNumbers() []int {
	return []int{-1, -2, -3, -4, -5, -6, 0, 1, 12, 13, 8000, 8001, 8002, math.MinInt32, math.MaxInt32, math.MinInt, math.MinInt + 1, math.MinInt + 2, math.MinInt + 3, math.MaxInt - 1, math.MaxInt}
}

// wrongStarts are none of a list of two literals.
func wrongStarts() [][]int {
	lists := [][]int{{0, 0}, {1, 1}, {1, 0}, {0, 1, 1}, {0, 0, 1}, {0, 1, 0}, {2}, {0, 2}, {0, 1, 2}, {-1}, {-1, 0}, {-1, 0, 1}, {3}, {2, 3}}
	for _, n := range []int{math.MinInt32, math.MaxInt32, math.MinInt, math.MinInt + 1, math.MaxInt - 1, math.MaxInt} {
		lists = append(lists, []int{n}, []int{0, n}, []int{n, 1})
	}
	return lists
}

// wrongAssigns are not valid.
func wrongAssigns() []api.Assign {
	var list []api.Assign
	for _, vars := range wrongVars() {
		list = append(list, api.Assign{Vars: vars}, api.Assign{Vars: vars, Trail: []int{2}}, api.Assign{Vars: vars, Trail: []int{2, 5}, Starts: []int{1}})
	}
	for vars := range 6 {
		for _, n := range wrongNumbers() {
			for _, trail := range [][]int{{n}, {n, 2}, {2, n}, {2, n, 4}, {n, n}} {
				list = append(list, api.Assign{Vars: vars, Trail: trail}, api.Assign{Vars: vars, Trail: trail, Starts: []int{0}})
			}
		}
	}
	for _, trail := range [][]int{{2, 2}, {2, 3}, {3, 2}, {3, 3}, {2, 4, 2}, {2, 4, 3}, {4, 2, 7, 5}, {11, 10}} {
		list = append(list, api.Assign{Vars: 5, Trail: trail}, api.Assign{Vars: 5, Trail: trail, Starts: []int{0, 1}})
	}
	for _, starts := range wrongStarts() {
		list = append(list, api.Assign{Vars: 5, Trail: []int{4, 7}, Starts: starts}, api.Assign{Vars: 5, Trail: []int{4}, Starts: append([]int{1}, starts...)}, api.Assign{Vars: 5, Starts: starts})
	}
	return list
}

// fails tests that functions with a literal return the error, and nothing else.
func fails(t *testing.T, a api.Assign, lit int, want api.Errno) {
	t.Helper()
	if b, e := assign.Decide(a, lit); !isEmpty(b) || e != want {
		t.Errorf("Decide(%v, %d) = %v, %d; want error %d", a, lit, b, e, want)
	}
	if b, e := assign.Imply(a, lit); !isEmpty(b) || e != want {
		t.Errorf("Imply(%v, %d) = %v, %d; want error %d", a, lit, b, e, want)
	}
	if v, e := assign.Value(a, lit); v != 0 || e != want {
		t.Errorf("Value(%v, %d) = %d, %d; want error %d", a, lit, v, e, want)
	}
	if level, e := assign.Level(a, lit); level != 0 || e != want {
		t.Errorf("Level(%v, %d) = %d, %d; want error %d", a, lit, level, e, want)
	}
}

func isEmpty(a api.Assign) bool { return a.Vars == 0 && a.Trail == nil && a.Starts == nil }

// An assignment that is not valid comes first, whatever is asked of it.
func TestTheAssignmentComesFirst(t *testing.T) {
	for _, a := range wrongAssigns() {
		if e := assign.Check(a); e != api.ErrBad {
			t.Errorf("Check(%v) = %d", a, e)
		}
		for _, lit := range append(wrongNumbers(), literals(5)...) {
			fails(t, a, lit, api.ErrBad)
		}
		for _, level := range []int{0, 1, 2, 3, -1, -2, 4000, math.MinInt, math.MaxInt} {
			if b, e := assign.Undo(a, level); !isEmpty(b) || e != api.ErrBad {
				t.Errorf("Undo(%v, %d) = %v, %d", a, level, b, e)
			}
		}
	}
}

// Numbers that are no literals come next: no variable of theirs has a value, or has none.
func TestNumbersThatAreNoLiterals(t *testing.T) {
	for vars := range 6 {
		a := api.Assign{Vars: vars}
		for v := 1; v <= vars; v++ {
			for _, n := range wrongNumbers() {
				fails(t, a, n, api.ErrArg)
			}
			a.Starts = append(a.Starts, len(a.Trail))
			a.Trail = append(a.Trail, 2*v+v%2)
		}
		for _, n := range wrongNumbers() {
			fails(t, a, n, api.ErrArg)
		}
	}
}

// Literals of one variable more than there are.
func TestLiteralsOfTooManyVariables(t *testing.T) {
	for _, vars := range []int{0, 1, 2, 5, 999, 1000, 1001, 3999, 4000} {
		for _, l := range []int{2*vars + 2, 2*vars + 3, 2*vars + 4} {
			fails(t, api.Assign{Vars: vars}, l, api.ErrArg)
			fails(t, api.Assign{Vars: vars, Trail: []int{l}}, l, api.ErrBad)
			fails(t, api.Assign{Vars: vars, Trail: []int{l}}, 2, api.ErrBad)
		}
	}
}

func TestVariablesWithAValueAreFull(t *testing.T) {
	a := api.Assign{Vars: 5, Trail: []int{4, 7, 2, 9}, Starts: []int{1, 3}}
	for _, l := range []int{2, 3, 4, 5, 6, 7, 8, 9} {
		if b, e := assign.Decide(a, l); !isEmpty(b) || e != api.ErrFull {
			t.Errorf("Decide(%v, %d) = %v, %d", a, l, b, e)
		}
		if b, e := assign.Imply(a, l); !isEmpty(b) || e != api.ErrFull {
			t.Errorf("Imply(%v, %d) = %v, %d", a, l, b, e)
		}
	}
}

func TestVariablesWithoutAValueHaveNoLevel(t *testing.T) {
	for _, a := range []api.Assign{{Vars: 5}, {Vars: 5, Trail: []int{4, 7, 2, 9}}, {Vars: 5, Trail: []int{4, 7, 2, 9}, Starts: []int{1, 3}}, {Vars: 5, Trail: []int{9}, Starts: []int{0}}} {
		for _, l := range []int{10, 11} {
			if level, e := assign.Level(a, l); level != 0 || e != api.ErrNone {
				t.Errorf("Level(%v, %d) = %d, %d", a, l, level, e)
			}
			if v, e := assign.Value(a, l); v != isNone || e != api.OK {
				t.Errorf("Value(%v, %d) = %d, %d", a, l, v, e)
			}
		}
	}
}

func TestLevelsThatAreNone(t *testing.T) {
	for _, a := range []api.Assign{{}, {Vars: 5}, {Vars: 5, Trail: []int{4, 7, 2, 9}}, {Vars: 5, Trail: []int{4, 7, 2, 9}, Starts: []int{1, 3}}, {Vars: 5, Trail: []int{9, 3}, Starts: []int{0, 1}}} {
		for _, level := range []int{-1, -2, -4000, len(a.Starts) + 1, len(a.Starts) + 2, 4000, 4001, math.MinInt32, math.MaxInt32, math.MinInt, math.MinInt + 1, math.MaxInt - 1, math.MaxInt} {
			if b, e := assign.Undo(a, level); !isEmpty(b) || e != api.ErrArg {
				t.Errorf("Undo(%v, %d) = %v, %d", a, level, b, e)
			}
		}
	}
}

func TestNewOfWrongNumbers(t *testing.T) {
	for _, vars := range wrongVars() {
		if a, e := assign.New(vars); !isEmpty(a) || e != api.ErrArg {
			t.Errorf("New(%d) = %v, %d", vars, a, e)
		}
	}
	if api.MaxSolver != mostVars || api.VaFalse != isFalse || api.VaTrue != isTrue || api.VaNone != isNone {
		t.Errorf("MaxSolver is %d, the values %d, %d and %d", api.MaxSolver, api.VaFalse, api.VaTrue, api.VaNone)
	}
}

// Lists that are much longer than they may be.
func TestLongLists(t *testing.T) {
	long := make([]int, 3000000)
	for i := range long {
		long[i] = i
	}
	for _, a := range []api.Assign{{Vars: 4000, Trail: long}, {Vars: 4000, Trail: long[2:]}, {Vars: 4000, Starts: long}, {Vars: 4000, Trail: []int{2, 4, 6}, Starts: long}, {Vars: 4000, Trail: slices.Repeat([]int{2}, 3000000)}, {Vars: math.MaxInt, Trail: long[2:], Starts: long}} {
		if e := assign.Check(a); e != api.ErrBad {
			t.Errorf("Check(%s) = %d", short(a), e)
		}
		if _, e := assign.Imply(a, 2); e != api.ErrBad {
			t.Errorf("Imply(%s, 2): error %d", short(a), e)
		}
		if _, e := assign.Undo(a, 1); e != api.ErrBad {
			t.Errorf("Undo(%s, 1): error %d", short(a), e)
		}
	}
}
