package unit_test

import (
	"math"
	"slices"
	"testing"

	"spiritlevel/api"
	"spiritlevel/assign"
	"spiritlevel/clause"
	"spiritlevel/unit"
)

// What is not valid, in the order of the errors.

// wrongAssigns are not valid.
func wrongAssigns() []api.Assign {
	var list []api.Assign
	for _, vars := range []int{-1, -2, -4000, 4001, 4002, 8000, math.MinInt32, math.MaxInt32, math.MinInt, math.MinInt + 1, math.MaxInt / 2, math.MaxInt - 1, math.MaxInt} {
		list = append(list, api.Assign{Vars: vars}, api.Assign{Vars: vars, Trail: []int{2}}, api.Assign{Vars: vars, Trail: []int{2, 5}, Starts: []int{1}})
	}
	for _, n := range wrongNumbers() {
		list = append(list, api.Assign{Vars: 5, Trail: []int{n}}, api.Assign{Vars: 5, Trail: []int{2, n}, Starts: []int{0}})
	}
	for _, trail := range [][]int{{2, 2}, {2, 3}, {3, 2}, {3, 3}, {2, 4, 2}, {4, 2, 7, 5}} {
		list = append(list, api.Assign{Vars: 5, Trail: trail}, api.Assign{Vars: 5, Trail: trail, Starts: []int{0, 1}})
	}
	for _, starts := range [][]int{{0, 0}, {1, 0}, {2}, {0, 2}, {-1}, {-1, 0}, {math.MinInt}, {0, math.MaxInt}} {
		list = append(list, api.Assign{Vars: 5, Trail: []int{4, 7}, Starts: starts})
	}
	return append(list, api.Assign{Vars: 5, Starts: []int{0}}, api.Assign{Trail: []int{2}})
}

// wrongNumbers are no literals of at most five variables.
func wrongNumbers() []int {
	return []int{-1, -2, -3, -4, -5, -6, 0, 1, 12, 13, 8000, 8001, 8002, math.MinInt32, math.MaxInt32, math.MinInt, math.MinInt + 1, math.MinInt + 2, math.MinInt + 3, math.MaxInt - 1, math.MaxInt}
}

// wrongClauses are none over five variables.
func wrongClauses() [][]int {
	list := [][]int{{4, 2}, {2, 2}, {2, 3}, {3, 2}, {4, 5}, {2, 4, 5}, {2, 3, 4}, {2, 6, 4}, {10, 11}, {2, 4, 4}}
	for _, n := range wrongNumbers() {
		list = append(list, []int{n}, []int{2, n}, []int{n, 2}, []int{2, n, 4})
	}
	return list
}

// wrongInstances are not valid for one reason each.
func wrongInstances() []instance {
	var list []instance
	for _, a := range wrongAssigns() {
		list = append(list, instance{a, nil}, instance{a, [][]int{{2}, {3, 4}}})
	}
	for _, c := range wrongClauses() {
		a := api.Assign{Vars: 5, Trail: []int{4, 7, 2, 9}, Starts: []int{1, 3}}
		list = append(list, instance{a, [][]int{c}}, instance{a, [][]int{{2}, c}}, instance{api.Assign{Vars: 5}, [][]int{c, {2}}})
	}
	return list
}

// isEmpty tells whether there is nothing in it.
func isEmpty(a api.Assign) bool { return a.Vars == 0 && a.Trail == nil && a.Starts == nil }

func fails(t *testing.T, a api.Assign, l [][]int, want api.Errno) {
	t.Helper()
	if b, at, e := unit.Run(a, l); !isEmpty(b) || at != 0 || e != want {
		t.Errorf("Run(%s, %s) = %s, %d, %d; want error %d", short(a), short(l), short(b), at, e, want)
	}
}

func failsState(t *testing.T, a api.Assign, c []int, want api.Errno) {
	t.Helper()
	if state, lit, e := unit.State(a, c); state != 0 || lit != 0 || e != want {
		t.Errorf("State(%s, %s) = %d, %d, %d; want error %d", short(a), short(c), state, lit, e, want)
	}
}

// tooMany are one clause more than there may be.
func tooMany() [][]int { return slices.Repeat([][]int{{2}}, mostClauses+1) }

// An assignment that is not valid comes first, whatever the clauses are.
func TestTheAssignmentComesFirst(t *testing.T) {
	many := tooMany()
	for _, a := range wrongAssigns() {
		want := assign.Check(a)
		if want != api.ErrBad {
			t.Errorf("Check(%v) = %d", a, want)
		}
		for _, c := range append([][]int{nil, {2}, {2, 5}}, wrongClauses()...) {
			failsState(t, a, c, want)
			fails(t, a, [][]int{c}, want)
		}
		fails(t, a, nil, want)
		fails(t, a, many, want)
	}
}

// Too many clauses come next: also where some are none, or one is false.
func TestTooManyClauses(t *testing.T) {
	for _, a := range []api.Assign{{}, {Vars: 1}, {Vars: 1, Trail: []int{3}}, {Vars: mostVars}} {
		l := tooMany()
		fails(t, a, l, api.ErrMany)
		for _, c := range [][]int{nil, {3}, {2, 3}, {0}, {-1}, {8002}} {
			for _, at := range []int{0, 1, mostClauses - 1, mostClauses} {
				l[at] = c
				fails(t, a, l, api.ErrMany)
				l[at] = []int{2}
			}
		}
		fails(t, a, slices.Repeat([][]int{nil}, 3*mostClauses), api.ErrMany)
	}
	// Just as many as there may be.
	l := tooMany()[1:]
	b, at, e := unit.Run(api.Assign{Vars: 1}, l)
	if !slices.Equal(b.Trail, []int{2}) || at != -1 || e != api.OK {
		t.Errorf("of %d clauses it is %v, %d, %d", len(l), b, at, e)
	}
	l[mostClauses-1] = []int{4}
	fails(t, api.Assign{Vars: 1}, l, api.ErrBad)
	if api.MaxSolver != mostVars || api.MaxClauses != mostClauses {
		t.Errorf("MaxSolver is %d, MaxClauses %d", api.MaxSolver, api.MaxClauses)
	}
}

// What is no clause comes last: also behind one that is false, or unit, or where the assignment has all values.
func TestListsThatAreNoClauses(t *testing.T) {
	for _, a := range []api.Assign{{Vars: 5}, {Vars: 5, Trail: []int{3, 5}, Starts: []int{0}}, {Vars: 5, Trail: []int{4, 7, 2, 9, 10}, Starts: []int{1, 3}}} {
		for _, c := range wrongClauses() {
			want := clause.Check(5, c)
			if want != api.ErrBad {
				t.Errorf("Check(5, %v) = %d", c, want)
			}
			failsState(t, a, c, want)
			for _, l := range [][][]int{{c}, {{2, 4}, c}, {c, {2, 4}}, {nil, c}, {c, nil}, {{2}, {3}, c}, {{2}, c, {3}}, {c, c}} {
				fails(t, a, l, want)
			}
		}
	}
}

// Literals of one variable more than the assignment has.
func TestLiteralsOfTooManyVariables(t *testing.T) {
	for _, vars := range []int{0, 1, 2, 5, 999, 1000, 1001, 3999, 4000} {
		a := api.Assign{Vars: vars}
		for _, l := range []int{2*vars + 2, 2*vars + 3, 2*vars + 4} {
			failsState(t, a, []int{l}, api.ErrBad)
			fails(t, a, [][]int{{l}}, api.ErrBad)
			fails(t, api.Assign{Vars: vars, Trail: []int{l}}, [][]int{nil}, api.ErrBad)
		}
		for _, l := range []int{2 * vars, 2*vars + 1} {
			if l < 2 {
				continue
			}
			tells(t, a, []int{l})
			runs(t, a, [][]int{{l}})
			runs(t, api.Assign{Vars: vars, Trail: []int{l}}, [][]int{{negation(l)}})
		}
	}
}

// Lists that are much longer than they may be.
func TestLongLists(t *testing.T) {
	long := make([]int, 3000000)
	for i := range long {
		long[i] = i
	}
	a := api.Assign{Vars: mostVars}
	for _, c := range [][]int{long, long[2:], slices.Repeat([]int{2}, 3000000)} {
		failsState(t, a, c, api.ErrBad)
		fails(t, a, [][]int{c}, api.ErrBad)
		fails(t, a, [][]int{{2}, {4}, c}, api.ErrBad)
		failsState(t, api.Assign{Vars: mostVars, Trail: c}, nil, api.ErrBad)
		fails(t, api.Assign{Vars: mostVars, Trail: c}, nil, api.ErrBad)
		fails(t, api.Assign{Vars: mostVars, Trail: []int{2, 4, 6}, Starts: c}, nil, api.ErrBad)
	}
	fails(t, a, make([][]int, 3000000), api.ErrMany)
}
