package assign_test

import (
	"fmt"
	"iter"
	"math/rand"
	"slices"
	"testing"

	"spiritlevel/api"
	"spiritlevel/assign"
)

// What the tests have in common: assignments, all of a size or drawn, and the chapter's definitions told a second time, against which the package is held.

const (
	// Written as numbers: the limit and the values must not move with the constants of the program.
	mostVars = 4000
	isFalse  = uint8(0)
	isTrue   = uint8(1)
	isNone   = uint8(2)
)

func areVars(vars int) bool { return 0 <= vars && vars <= mostVars }

func isLiteral(vars, n int) bool { return 2 <= n && n <= 2*vars+1 }

// literals are those of so many variables.
func literals(vars int) []int {
	var list []int
	for v := 1; v <= vars; v++ {
		list = append(list, 2*v, 2*v+1)
	}
	return list
}

// negation is asked of literals only.
func negation(l int) int {
	if l%2 == 0 {
		return l + 1
	}
	return l - 1
}

func isValid(a api.Assign) bool {
	if !areVars(a.Vars) {
		return false
	}
	there := map[int]bool{}
	for _, l := range a.Trail {
		if !isLiteral(a.Vars, l) || there[l] || there[negation(l)] {
			return false
		}
		there[l] = true
	}
	for i, s := range a.Starts {
		if s < 0 || s >= len(a.Trail) || i > 0 && a.Starts[i-1] >= s {
			return false
		}
	}
	return true
}

// levelsOf are the literals of each level, from 0 on.
func levelsOf(a api.Assign) [][]int {
	begins := map[int]bool{}
	for _, s := range a.Starts {
		begins[s] = true
	}
	levels := [][]int{nil}
	for i, l := range a.Trail {
		if begins[i] {
			levels = append(levels, nil)
		}
		last := len(levels) - 1
		levels[last] = append(levels[last], l)
	}
	return levels
}

// ofLevels is the assignment with these literals in each level.
func ofLevels(vars int, levels [][]int) api.Assign {
	a := api.Assign{Vars: vars}
	for i, level := range levels {
		if i > 0 {
			a.Starts = append(a.Starts, len(a.Trail))
		}
		a.Trail = append(a.Trail, level...)
	}
	return a
}

func wantedCheck(a api.Assign) api.Errno {
	if !isValid(a) {
		return api.ErrBad
	}
	return api.OK
}

func wantedNew(vars int) (api.Assign, api.Errno) {
	if !areVars(vars) {
		return api.Assign{}, api.ErrArg
	}
	return api.Assign{Vars: vars}, api.OK
}

func wantedWith(a api.Assign, lit int) api.Errno {
	switch {
	case !isValid(a):
		return api.ErrBad
	case !isLiteral(a.Vars, lit):
		return api.ErrArg
	}
	return api.OK
}

// wantedMore is what deciding or implying a literal makes.
func wantedMore(a api.Assign, lit int, decided bool) (api.Assign, api.Errno) {
	if e := wantedWith(a, lit); e != api.OK {
		return api.Assign{}, e
	}
	if slices.Contains(a.Trail, lit) || slices.Contains(a.Trail, negation(lit)) {
		return api.Assign{}, api.ErrFull
	}
	levels := levelsOf(a)
	if decided {
		levels = append(levels, nil)
	}
	last := len(levels) - 1
	levels[last] = append(levels[last], lit)
	return ofLevels(a.Vars, levels), api.OK
}

func wantedValue(a api.Assign, lit int) (uint8, api.Errno) {
	if e := wantedWith(a, lit); e != api.OK {
		return 0, e
	}
	switch {
	case slices.Contains(a.Trail, lit):
		return isTrue, api.OK
	case slices.Contains(a.Trail, negation(lit)):
		return isFalse, api.OK
	}
	return isNone, api.OK
}

func wantedLevel(a api.Assign, lit int) (int, api.Errno) {
	if e := wantedWith(a, lit); e != api.OK {
		return 0, e
	}
	for level, list := range levelsOf(a) {
		if slices.Contains(list, lit) || slices.Contains(list, negation(lit)) {
			return level, api.OK
		}
	}
	return 0, api.ErrNone
}

func wantedUndo(a api.Assign, level int) (api.Assign, api.Errno) {
	if !isValid(a) {
		return api.Assign{}, api.ErrBad
	}
	levels := levelsOf(a)
	if level < 0 || level >= len(levels) {
		return api.Assign{}, api.ErrArg
	}
	return ofLevels(a.Vars, levels[:level+1]), api.OK
}

// short returns what may be printed of anything.
func short(v any) string {
	s := fmt.Sprintf("%v", v)
	if len(s) > 300 {
		return s[:300] + ".."
	}
	return s
}

func isSame(a, b api.Assign) bool {
	return a.Vars == b.Vars && slices.Equal(a.Trail, b.Trail) && slices.Equal(a.Starts, b.Starts)
}

// checks, news, decides, implies, values, tellsLevel and undoes test that a function says what the chapter does.

func checks(t *testing.T, a api.Assign) {
	t.Helper()
	want := wantedCheck(a)
	if e := assign.Check(a); e != want {
		t.Errorf("Check(%s) = %d; want %d", short(a), e, want)
	}
}

func news(t *testing.T, vars int) {
	t.Helper()
	want, wantError := wantedNew(vars)
	if a, e := assign.New(vars); !isSame(a, want) || e != wantError {
		t.Errorf("New(%d) = %s, %d; want %s, %d", vars, short(a), e, short(want), wantError)
	}
}

func decides(t *testing.T, a api.Assign, lit int) {
	t.Helper()
	want, wantError := wantedMore(a, lit, true)
	if b, e := assign.Decide(a, lit); !isSame(b, want) || e != wantError {
		t.Errorf("Decide(%s, %d) = %s, %d; want %s, %d", short(a), lit, short(b), e, short(want), wantError)
	}
}

func implies(t *testing.T, a api.Assign, lit int) {
	t.Helper()
	want, wantError := wantedMore(a, lit, false)
	if b, e := assign.Imply(a, lit); !isSame(b, want) || e != wantError {
		t.Errorf("Imply(%s, %d) = %s, %d; want %s, %d", short(a), lit, short(b), e, short(want), wantError)
	}
}

func values(t *testing.T, a api.Assign, lit int) {
	t.Helper()
	want, wantError := wantedValue(a, lit)
	if v, e := assign.Value(a, lit); v != want || e != wantError {
		t.Errorf("Value(%s, %d) = %d, %d; want %d, %d", short(a), lit, v, e, want, wantError)
	}
}

func tellsLevel(t *testing.T, a api.Assign, lit int) {
	t.Helper()
	want, wantError := wantedLevel(a, lit)
	if level, e := assign.Level(a, lit); level != want || e != wantError {
		t.Errorf("Level(%s, %d) = %d, %d; want %d, %d", short(a), lit, level, e, want, wantError)
	}
}

func undoes(t *testing.T, a api.Assign, level int) {
	t.Helper()
	want, wantError := wantedUndo(a, level)
	if b, e := assign.Undo(a, level); !isSame(b, want) || e != wantError {
		t.Errorf("Undo(%s, %d) = %s, %d; want %s, %d", short(a), level, short(b), e, short(want), wantError)
	}
}

// withLiteral tests all functions with a literal, which may be any number.
func withLiteral(t *testing.T, a api.Assign, lit int) {
	t.Helper()
	decides(t, a, lit)
	implies(t, a, lit)
	values(t, a, lit)
	tellsLevel(t, a, lit)
}

// around are the literals of so many variables, and the numbers next to them.
func around(vars int) []int {
	var list []int
	for n := -3; n <= 2*vars+5; n++ {
		list = append(list, n)
	}
	return list
}

// allLists yields all lists of up to so many of the numbers.
func allLists(numbers []int, most int) iter.Seq[[]int] {
	return func(yield func([]int) bool) {
		if !yield(nil) || most == 0 {
			return
		}
		for _, n := range numbers {
			for list := range allLists(numbers, most-1) {
				if !yield(append([]int{n}, list...)) {
					return
				}
			}
		}
	}
}

// allAssigns are the valid ones of so many variables: each one without a literal more, then with each literal that it may have, decided or implied.
func allAssigns(vars int) []api.Assign {
	all := []api.Assign{{Vars: vars}}
	for at := 0; at < len(all); at++ {
		a := all[at]
		for _, l := range literals(vars) {
			if slices.Contains(a.Trail, l) || slices.Contains(a.Trail, negation(l)) {
				continue
			}
			trail := append(slices.Clone(a.Trail), l)
			decided := append(slices.Clone(a.Starts), len(a.Trail))
			all = append(all, api.Assign{Vars: vars, Trail: trail, Starts: slices.Clone(a.Starts)}, api.Assign{Vars: vars, Trail: slices.Clone(trail), Starts: decided})
		}
	}
	return all
}

// drawnAssign has about so many of a hundred variables, and about so many of a hundred literals are decisions.
func drawnAssign(rnd *rand.Rand, vars, percent, decided int) api.Assign {
	a := api.Assign{Vars: vars}
	for _, v := range rnd.Perm(vars) {
		if rnd.Intn(100) >= percent {
			continue
		}
		if rnd.Intn(100) < decided {
			a.Starts = append(a.Starts, len(a.Trail))
		}
		a.Trail = append(a.Trail, 2*v+2+rnd.Intn(2))
	}
	return a
}

// drawnVars is a number of variables, often a small one, or one of the greatest.
func drawnVars(rnd *rand.Rand) int {
	switch rnd.Intn(4) {
	case 0:
		return rnd.Intn(5)
	case 1:
		return mostVars - rnd.Intn(3)
	case 2:
		return rnd.Intn(mostVars + 1)
	}
	return rnd.Intn(60)
}
