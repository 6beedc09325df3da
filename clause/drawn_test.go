package clause_test

import (
	"fmt"
	"iter"
	"math/rand"
	"slices"
	"testing"

	"spiritlevel/api"
	"spiritlevel/clause"
)

// What the tests have in common: lists, clauses and values, all of a size or drawn, and the chapter's definitions told a second time, against which the package is held.

const (
	o = false
	x = true

	// Written as a number: the limit must not move with the constants of the program.
	mostVars = 4000
)

func areVars(vars int) bool { return 0 <= vars && vars <= mostVars }

// literals are those of so many variables.
func literals(vars int) []int {
	var list []int
	for v := 1; v <= vars; v++ {
		list = append(list, 2*v, 2*v+1)
	}
	return list
}

// negation is asked of literals only.
func negation(l int) int {
	if l%2 == 0 {
		return l + 1
	}
	return l - 1
}

func setOf(list []int) map[int]bool {
	there := map[int]bool{}
	for _, l := range list {
		there[l] = true
	}
	return there
}

func isClause(vars int, list []int) bool {
	there := map[int]bool{}
	for i, l := range list {
		if l < 2 || l > 2*vars+1 || i > 0 && list[i-1] >= l || there[negation(l)] {
			return false
		}
		there[l] = true
	}
	return true
}

func wantedCheck(vars int, list []int) api.Errno {
	switch {
	case !areVars(vars):
		return api.ErrArg
	case !isClause(vars, list):
		return api.ErrBad
	}
	return api.OK
}

// wantedMake asks of each literal that there may be whether it is one of the list.
func wantedMake(vars int, list []int) ([]int, bool, api.Errno) {
	if !areVars(vars) {
		return nil, false, api.ErrArg
	}
	for _, l := range list {
		if l < 2 || l > 2*vars+1 {
			return nil, false, api.ErrBad
		}
	}
	there := setOf(list)
	var c []int
	for v := 1; v <= vars && len(c) < len(there); v++ {
		if there[2*v] && there[2*v+1] {
			return nil, true, api.OK
		}
		for l := 2 * v; l <= 2*v+1; l++ {
			if there[l] {
				c = append(c, l)
			}
		}
	}
	return c, false, api.OK
}

func wantedTrue(c []int, values []bool) (bool, api.Errno) {
	if e := wantedCheck(len(values), c); e != api.OK {
		return false, e
	}
	return isTrue(c, values), api.OK
}

// isTrue tells whether one of the literals is true; they need not be a clause.
func isTrue(list []int, values []bool) bool {
	there := setOf(list)
	for v, value := range values {
		if value && there[2*v+2] || !value && there[2*v+3] {
			return true
		}
	}
	return false
}

func wantedImplies(vars int, a, b []int) (bool, api.Errno) {
	if !areVars(vars) {
		return false, api.ErrArg
	}
	if !isClause(vars, a) || !isClause(vars, b) {
		return false, api.ErrBad
	}
	there := setOf(b)
	for _, l := range a {
		if !there[l] {
			return false, api.OK
		}
	}
	return true, api.OK
}

func wantedResolve(vars int, a, b []int, v int) ([]int, bool, api.Errno) {
	if !areVars(vars) {
		return nil, false, api.ErrArg
	}
	if !isClause(vars, a) || !isClause(vars, b) {
		return nil, false, api.ErrBad
	}
	if v < 1 || v > vars || !hasBoth(a, b, v) && !hasBoth(b, a, v) {
		return nil, false, api.ErrNone
	}
	var others []int
	for _, l := range append(slices.Clone(a), b...) {
		if l != 2*v && l != 2*v+1 {
			others = append(others, l)
		}
	}
	return wantedMake(vars, others)
}

// hasBoth tells whether the first clause has a variable, and the second one its negation.
func hasBoth(a, b []int, v int) bool { return slices.Contains(a, 2*v) && slices.Contains(b, 2*v+1) }

// short returns what may be printed of anything.
func short(v any) string {
	s := fmt.Sprintf("%v", v)
	if len(s) > 300 {
		return s[:300] + ".."
	}
	return s
}

// checks, makes, tells, implies and resolves test that a function says what the chapter does.

func checks(t *testing.T, vars int, list []int) {
	t.Helper()
	want := wantedCheck(vars, list)
	if e := clause.Check(vars, list); e != want {
		t.Errorf("Check(%d, %s) = %d; want %d", vars, short(list), e, want)
	}
}

func makes(t *testing.T, vars int, list []int) {
	t.Helper()
	want, wantAlways, wantError := wantedMake(vars, list)
	c, always, e := clause.Make(vars, list)
	if !slices.Equal(c, want) || always != wantAlways || e != wantError {
		t.Errorf("Make(%d, %s) = %s, %t, %d; want %s, %t, %d", vars, short(list), short(c), always, e, short(want), wantAlways, wantError)
	}
}

func tells(t *testing.T, c []int, values []bool) {
	t.Helper()
	want, wantError := wantedTrue(c, values)
	if is, e := clause.True(c, values); is != want || e != wantError {
		t.Errorf("True(%s, %s) = %t, %d; want %t, %d", short(c), short(values), is, e, want, wantError)
	}
}

func implies(t *testing.T, vars int, a, b []int) {
	t.Helper()
	want, wantError := wantedImplies(vars, a, b)
	if is, e := clause.Implies(vars, a, b); is != want || e != wantError {
		t.Errorf("Implies(%d, %s, %s) = %t, %d; want %t, %d", vars, short(a), short(b), is, e, want, wantError)
	}
}

func resolves(t *testing.T, vars int, a, b []int, v int) {
	t.Helper()
	want, wantAlways, wantError := wantedResolve(vars, a, b, v)
	c, always, e := clause.Resolve(vars, a, b, v)
	if !slices.Equal(c, want) || always != wantAlways || e != wantError {
		t.Errorf("Resolve(%d, %s, %s, %d) = %s, %t, %d; want %s, %t, %d", vars, short(a), short(b), v, short(c), always, e, short(want), wantAlways, wantError)
	}
}

// allLists yields all lists of up to so many of the numbers.
func allLists(numbers []int, most int) iter.Seq[[]int] {
	return func(yield func([]int) bool) {
		if !yield(nil) || most == 0 {
			return
		}
		for _, n := range numbers {
			for list := range allLists(numbers, most-1) {
				if !yield(append([]int{n}, list...)) {
					return
				}
			}
		}
	}
}

// around are the literals of so many variables, and the numbers next to them.
func around(vars int) []int {
	var list []int
	for n := -2; n <= 2*vars+4; n++ {
		list = append(list, n)
	}
	return list
}

// allClauses are those of so many variables: each one is there, or its negation, or none of the two.
func allClauses(vars int) [][]int {
	all := [][]int{nil}
	for v := 1; v <= vars; v++ {
		var longer [][]int
		for _, c := range all {
			longer = append(longer, c, append(slices.Clone(c), 2*v), append(slices.Clone(c), 2*v+1))
		}
		all = longer
	}
	return all
}

// allValues are those of so many variables.
func allValues(vars int) [][]bool {
	all := [][]bool{nil}
	for range vars {
		var longer [][]bool
		for _, values := range all {
			longer = append(longer, append(slices.Clone(values), o), append(slices.Clone(values), x))
		}
		all = longer
	}
	return all
}

func drawnValues(rnd *rand.Rand, vars int) []bool {
	values := make([]bool, vars)
	for i := range values {
		values[i] = rnd.Intn(2) == 0
	}
	return values
}

// drawnClause has about so many of a hundred variables.
func drawnClause(rnd *rand.Rand, vars, percent int) []int {
	var c []int
	for v := 1; v <= vars; v++ {
		if rnd.Intn(100) < percent {
			c = append(c, 2*v+rnd.Intn(2))
		}
	}
	return c
}

// drawnVars is a number of variables, often a small one, or one of the greatest.
func drawnVars(rnd *rand.Rand) int {
	switch rnd.Intn(4) {
	case 0:
		return rnd.Intn(5)
	case 1:
		return mostVars - rnd.Intn(3)
	case 2:
		return rnd.Intn(mostVars + 1)
	}
	return rnd.Intn(60)
}
