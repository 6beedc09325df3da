package unit_test

import (
	"fmt"
	"math/rand"
	"slices"
	"testing"

	"spiritlevel/api"
	"spiritlevel/unit"
)

// What the tests have in common: assignments and clauses, all of a size or drawn, and the chapter's definitions told a second time, against which the package is held.

const (
	// Written as numbers: the limits and the states must not move with the constants of the program.
	mostVars    = 4000
	mostClauses = 20000
	isFalse     = uint8(0)
	isTrue      = uint8(1)
	isOpen      = uint8(2)
	isUnit      = uint8(3)
)

func isLiteral(vars, n int) bool { return 2 <= n && n <= 2*vars+1 }

// literals are those of so many variables.
func literals(vars int) []int {
	var list []int
	for v := 1; v <= vars; v++ {
		list = append(list, 2*v, 2*v+1)
	}
	return list
}

// negation is asked of literals only.
func negation(l int) int {
	if l%2 == 0 {
		return l + 1
	}
	return l - 1
}

// isAssign tells whether an assignment is valid.
func isAssign(a api.Assign) bool {
	if a.Vars < 0 || a.Vars > mostVars {
		return false
	}
	there := map[int]bool{}
	for _, l := range a.Trail {
		if !isLiteral(a.Vars, l) || there[l] || there[negation(l)] {
			return false
		}
		there[l] = true
	}
	for i, s := range a.Starts {
		if s < 0 || s >= len(a.Trail) || i > 0 && a.Starts[i-1] >= s {
			return false
		}
	}
	return true
}

func isClause(vars int, c []int) bool {
	for i, l := range c {
		// In order, a literal would stand next to its negation.
		if !isLiteral(vars, l) || i > 0 && (c[i-1] >= l || c[i-1] == negation(l)) {
			return false
		}
	}
	return true
}

// stateUnder is what a clause is, if these literals are true.
func stateUnder(there []bool, c []int) (uint8, int) {
	for _, l := range c {
		if there[l] {
			return isTrue, 0
		}
	}
	without := 0
	for _, l := range c {
		if there[negation(l)] {
			continue
		}
		if without > 0 {
			return isOpen, 0
		}
		without = l
	}
	if without > 0 {
		return isUnit, without
	}
	return isFalse, 0
}

// setOf tells which literals are there.
func setOf(a api.Assign) []bool {
	set := make([]bool, 2*a.Vars+2)
	for _, l := range a.Trail {
		set[l] = true
	}
	return set
}

func wantedState(a api.Assign, c []int) (uint8, int, api.Errno) {
	if !isAssign(a) || !isClause(a.Vars, c) {
		return 0, 0, api.ErrBad
	}
	state, lit := stateUnder(setOf(a), c)
	return state, lit, api.OK
}

func wantedRun(a api.Assign, l [][]int) (api.Assign, int, api.Errno) {
	if !isAssign(a) {
		return api.Assign{}, 0, api.ErrBad
	}
	if len(l) > mostClauses {
		return api.Assign{}, 0, api.ErrMany
	}
	for _, c := range l {
		if !isClause(a.Vars, c) {
			return api.Assign{}, 0, api.ErrBad
		}
	}
	b, at := propagated(a, l)
	return b, at, api.OK
}

// propagated tells propagation as the chapter does: round by round, and all clauses in each one.
func propagated(a api.Assign, l [][]int) (api.Assign, int) {
	b := api.Assign{Vars: a.Vars, Trail: slices.Clone(a.Trail), Starts: slices.Clone(a.Starts)}
	there := setOf(b)
	for {
		implied := 0
		for i, c := range l {
			state, lit := stateUnder(there, c)
			if state == isFalse {
				return b, i
			}
			if state == isUnit && implied == 0 {
				implied = lit
			}
		}
		if implied == 0 {
			return b, -1
		}
		there[implied] = true
		b.Trail = append(b.Trail, implied)
	}
}

// short returns what may be printed of anything.
func short(v any) string {
	s := fmt.Sprintf("%v", v)
	if len(s) > 300 {
		return s[:300] + ".."
	}
	return s
}

func isSame(a, b api.Assign) bool {
	return a.Vars == b.Vars && slices.Equal(a.Trail, b.Trail) && slices.Equal(a.Starts, b.Starts)
}

// tells and runs test that a function says what the chapter does.

func tells(t *testing.T, a api.Assign, c []int) {
	t.Helper()
	want, wantLit, wantError := wantedState(a, c)
	if state, lit, e := unit.State(a, c); state != want || lit != wantLit || e != wantError {
		t.Errorf("State(%s, %s) = %d, %d, %d; want %d, %d, %d", short(a), short(c), state, lit, e, want, wantLit, wantError)
	}
}

func runs(t *testing.T, a api.Assign, l [][]int) {
	t.Helper()
	want, wantAt, wantError := wantedRun(a, l)
	if b, at, e := unit.Run(a, l); !isSame(b, want) || at != wantAt || e != wantError {
		t.Errorf("Run(%s, %s) = %s, %d, %d; want %s, %d, %d", short(a), short(l), short(b), at, e, short(want), wantAt, wantError)
	}
}

// run propagates where this has to be right.
func run(t *testing.T, a api.Assign, l [][]int) (api.Assign, int) {
	t.Helper()
	b, at, e := unit.Run(a, l)
	if e != api.OK {
		t.Fatalf("Run(%s, %s): error %d", short(a), short(l), e)
	}
	return b, at
}

func state(t *testing.T, a api.Assign, c []int) (uint8, int) {
	t.Helper()
	s, lit, e := unit.State(a, c)
	if e != api.OK {
		t.Fatalf("State(%s, %s): error %d", short(a), short(c), e)
	}
	return s, lit
}

// allAssigns are the valid ones of so many variables: each one without a literal more, then with each literal that it may have, decided or implied.
func allAssigns(vars int) []api.Assign {
	all := []api.Assign{{Vars: vars}}
	for at := 0; at < len(all); at++ {
		a := all[at]
		for _, l := range literals(vars) {
			if slices.Contains(a.Trail, l) || slices.Contains(a.Trail, negation(l)) {
				continue
			}
			trail := append(slices.Clone(a.Trail), l)
			decided := append(slices.Clone(a.Starts), len(a.Trail))
			all = append(all, api.Assign{Vars: vars, Trail: trail, Starts: slices.Clone(a.Starts)}, api.Assign{Vars: vars, Trail: slices.Clone(trail), Starts: decided})
		}
	}
	return all
}

// allClauses are those over so many variables, with the empty one.
func allClauses(vars int) [][]int {
	all := [][]int{nil}
	for v := 1; v <= vars; v++ {
		for _, c := range slices.Clone(all) {
			all = append(all, append(slices.Clone(c), 2*v), append(slices.Clone(c), 2*v+1))
		}
	}
	return all
}

// allLists calls do with all lists of up to so many of the clauses.
func allLists(clauses [][]int, most int, do func([][]int)) {
	var more func([][]int)
	more = func(l [][]int) {
		do(l)
		if len(l) == most {
			return
		}
		for _, c := range clauses {
			more(append(slices.Clone(l), c))
		}
	}
	more(nil)
}

// drawnAssign has about so many of a hundred variables, and about so many of a hundred literals are decisions.
func drawnAssign(rnd *rand.Rand, vars, percent, decided int) api.Assign {
	a := api.Assign{Vars: vars}
	for _, v := range rnd.Perm(vars) {
		if rnd.Intn(100) >= percent {
			continue
		}
		if rnd.Intn(100) < decided {
			a.Starts = append(a.Starts, len(a.Trail))
		}
		a.Trail = append(a.Trail, 2*v+2+rnd.Intn(2))
	}
	return a
}

// drawnClause has so many literals, or as many as there are variables.
func drawnClause(rnd *rand.Rand, vars, size int) []int {
	there := map[int]bool{}
	var c []int
	for len(c) < min(size, vars) {
		v := 1 + rnd.Intn(vars)
		if !there[v] {
			there[v] = true
			c = append(c, 2*v+rnd.Intn(2))
		}
	}
	slices.Sort(c)
	return c
}

// drawnClauses have from least to most literals each.
func drawnClauses(rnd *rand.Rand, vars, count, least, most int) [][]int {
	var l [][]int
	for range count {
		l = append(l, drawnClause(rnd, vars, least+rnd.Intn(most-least+1)))
	}
	return l
}
