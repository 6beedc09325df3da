package clause_test

import (
	"math"
	"slices"
	"testing"

	"spiritlevel/api"
	"spiritlevel/clause"
)

// What is not valid, in the order of the errors.

func wrongVars() []int {
	return []int{-1, -2, -4000, 4001, 4002, 8000, 20000, math.MinInt32, math.MaxInt32, math.MinInt, math.MinInt + 1, math.MinInt / 2, math.MaxInt / 2, math.MaxInt/2 + 1, math.MaxInt - 1, math.MaxInt}
}

// wrongNumbers are no literals of at most five variables.
func wrongNumbers() []int {
	return []int{-1, -2, -3, -4, -5, -6, 0, 1, 12, 13, 8000, 8001, 8002, math.MinInt32, math.MaxInt32, math.MinInt, math.MinInt + 1, math.MinInt + 2, math.MinInt + 3, math.MaxInt - 1, math.MaxInt}
}

// wrongLists are no clauses of at most five variables.
func wrongLists() [][]int {
	lists := [][]int{{2, 2}, {4, 2}, {2, 3}, {3, 2}, {2, 6, 7}, {2, 4, 4}, {2, 6, 4}, {11, 10}}
	for _, n := range wrongNumbers() {
		lists = append(lists, []int{n}, []int{2, n}, []int{n, 2}, []int{2, n, 4}, []int{n, n})
	}
	return lists
}

// lists are some that are clauses, and some that are not.
func lists() [][]int {
	return append(wrongLists(), nil, []int{2}, []int{3}, []int{2, 4}, []int{3, 5, 11})
}

// fails tests that all functions but True return the error, and nothing else, for each variable of Resolve.
func fails(t *testing.T, vars int, a, b []int, want api.Errno) {
	t.Helper()
	if is, e := clause.Implies(vars, a, b); is || e != want {
		t.Errorf("Implies(%d, %v, %v) = %t, %d; want error %d", vars, a, b, is, e, want)
	}
	for _, v := range []int{1, 0, -1, 2, 5, 6, 4000, 4001, math.MinInt, math.MinInt + 1, math.MaxInt} {
		if c, always, e := clause.Resolve(vars, a, b, v); c != nil || always || e != want {
			t.Errorf("Resolve(%d, %v, %v, %d) = %v, %t, %d; want error %d", vars, a, b, v, c, always, e, want)
		}
	}
}

func TestTheNumberOfVariablesComesFirst(t *testing.T) {
	for _, vars := range wrongVars() {
		for _, list := range lists() {
			if e := clause.Check(vars, list); e != api.ErrArg {
				t.Errorf("Check(%d, %v) = %d", vars, list, e)
			}
			if c, always, e := clause.Make(vars, list); c != nil || always || e != api.ErrArg {
				t.Errorf("Make(%d, %v) = %v, %t, %d", vars, list, c, always, e)
			}
			fails(t, vars, list, []int{3, 6}, api.ErrArg)
			fails(t, vars, []int{2, 4}, list, api.ErrArg)
			fails(t, vars, list, list, api.ErrArg)
		}
	}
	for _, size := range []int{4001, 4002, 8000, 70000} {
		for _, list := range append(lists(), []int{8002}, []int{2, 8003}) {
			for _, value := range []bool{o, x} {
				if is, e := clause.True(list, slices.Repeat([]bool{value}, size)); is || e != api.ErrArg {
					t.Errorf("True(%v, %d times %t) = %t, %d", list, size, value, is, e)
				}
			}
		}
	}
}

// So many variables there may be; 0 and MaxSolver are numbers like any other.
func TestNumbersOfVariablesThatAreRight(t *testing.T) {
	if api.MaxSolver != mostVars {
		t.Errorf("MaxSolver is %d", api.MaxSolver)
	}
	for vars := range mostVars + 1 {
		if e := clause.Check(vars, nil); e != api.OK {
			t.Fatalf("Check(%d, []) = %d", vars, e)
		}
		if c, always, e := clause.Make(vars, nil); len(c) > 0 || always || e != api.OK {
			t.Fatalf("Make(%d, []) = %v, %t, %d", vars, c, always, e)
		}
		if is, e := clause.True(nil, make([]bool, vars)); is || e != api.OK {
			t.Fatalf("True([], %d times false) = %t, %d", vars, is, e)
		}
		if is, e := clause.Implies(vars, nil, nil); !is || e != api.OK {
			t.Fatalf("Implies(%d, [], []) = %t, %d", vars, is, e)
		}
		if c, always, e := clause.Resolve(vars, nil, nil, vars); len(c) > 0 || always || e != api.ErrNone {
			t.Fatalf("Resolve(%d, [], [], %d) = %v, %t, %d", vars, vars, c, always, e)
		}
	}
	values := make([]bool, mostVars)
	values[mostVars-1] = true
	for l, want := range map[int]bool{7998: o, 7999: x, 8000: x, 8001: o} {
		if is, e := clause.True([]int{l}, values); is != want || e != api.OK {
			t.Errorf("True([%d]) = %t, %d; want %t", l, is, e, want)
		}
	}
	for _, l := range []int{8000, 8001} {
		if is, e := clause.True([]int{l}, values[:mostVars-1]); is || e != api.ErrBad {
			t.Errorf("True([%d]) = %t, %d", l, is, e)
		}
	}
}

func TestListsThatAreNoClauses(t *testing.T) {
	for vars := range 6 {
		for _, list := range wrongLists() {
			if e := clause.Check(vars, list); e != api.ErrBad {
				t.Errorf("Check(%d, %v) = %d", vars, list, e)
			}
			for _, value := range []bool{o, x} {
				if is, e := clause.True(list, slices.Repeat([]bool{value}, vars)); is || e != api.ErrBad {
					t.Errorf("True(%v, %d times %t) = %t, %d", list, vars, value, is, e)
				}
			}
			for _, other := range [][]int{nil, {2}, {3}, {2, 4}, {3, 5, 11}, list} {
				fails(t, vars, list, other, api.ErrBad)
				fails(t, vars, other, list, api.ErrBad)
			}
		}
	}
}

func TestMakeOfWrongNumbers(t *testing.T) {
	for vars := range 6 {
		for _, n := range wrongNumbers() {
			for _, list := range [][]int{{n}, {n, n}, {2, n}, {n, 2}, {2, 3, n}, {n, 3, 2}, {3, n, 2}, {n, 2, 2}, {n, -n}, {n, n ^ 1}} {
				if c, always, e := clause.Make(vars, list); c != nil || always || e != api.ErrBad {
					t.Errorf("Make(%d, %v) = %v, %t, %d", vars, list, c, always, e)
				}
			}
		}
	}
}

// Literals of one variable more than there are.
func TestLiteralsOfTooManyVariables(t *testing.T) {
	for _, vars := range []int{0, 1, 2, 5, 999, 1000, 1001, 3999, 4000} {
		for _, l := range []int{2*vars + 2, 2*vars + 3, 2*vars + 4} {
			if e := clause.Check(vars, []int{l}); e != api.ErrBad {
				t.Errorf("Check(%d, [%d]) = %d", vars, l, e)
			}
			if c, always, e := clause.Make(vars, []int{l}); c != nil || always || e != api.ErrBad {
				t.Errorf("Make(%d, [%d]) = %v, %t, %d", vars, l, c, always, e)
			}
			if is, e := clause.True([]int{l}, make([]bool, vars, vars+9)); is || e != api.ErrBad {
				t.Errorf("True([%d], %d times false) = %t, %d", l, vars, is, e)
			}
			fails(t, vars, []int{l}, []int{l ^ 1}, api.ErrBad)
			fails(t, vars, nil, []int{l}, api.ErrBad)
			fails(t, vars, []int{l}, nil, api.ErrBad)
		}
	}
}

// Twice a number that is no variable may be the literal of one, as numbers wrap around.
func TestVariablesThatAreNone(t *testing.T) {
	numbers := []int{0, -1, -2, -3, 4, 5, 6, 7, 4000, 4001, math.MinInt32, math.MaxInt32, math.MinInt, math.MaxInt}
	for d := range 9 {
		numbers = append(numbers, math.MinInt+d, math.MaxInt-d, math.MinInt/2+d, math.MinInt/2-d, math.MaxInt/2+d, math.MaxInt/2-d, 1<<62+d, 1<<32+d, 1<<31+d, 1<<16+d)
	}
	for _, v := range numbers {
		for _, p := range [][2][]int{{{2}, {3}}, {{3}, {2}}, {{2, 4, 6}, {3, 5, 7}}, {{3, 5, 7}, {2, 4, 6}}, {nil, nil}, {{2}, {2}}} {
			if c, always, e := clause.Resolve(3, p[0], p[1], v); c != nil || always || e != api.ErrNone {
				t.Errorf("Resolve(3, %v, %v, %d) = %v, %t, %d", p[0], p[1], v, c, always, e)
			}
		}
	}
}
