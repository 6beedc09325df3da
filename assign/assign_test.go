package assign_test

import (
	"math/rand"
	"slices"
	"testing"

	"spiritlevel/api"
	"spiritlevel/assign"
)

// decided and implied put a literal behind an assignment, where this has to be right.

func decided(t *testing.T, a api.Assign, lit int) api.Assign {
	t.Helper()
	b, e := assign.Decide(a, lit)
	if e != api.OK {
		t.Fatalf("Decide(%s, %d): error %d", short(a), lit, e)
	}
	return b
}

func implied(t *testing.T, a api.Assign, lit int) api.Assign {
	t.Helper()
	b, e := assign.Imply(a, lit)
	if e != api.OK {
		t.Fatalf("Imply(%s, %d): error %d", short(a), lit, e)
	}
	return b
}

func undone(t *testing.T, a api.Assign, level int) api.Assign {
	t.Helper()
	b, e := assign.Undo(a, level)
	if e != api.OK {
		t.Fatalf("Undo(%s, %d): error %d", short(a), level, e)
	}
	return b
}

func levelOf(t *testing.T, a api.Assign, lit int) int {
	t.Helper()
	level, e := assign.Level(a, lit)
	if e != api.OK {
		t.Fatalf("Level(%s, %d): error %d", short(a), lit, e)
	}
	return level
}

func valueOf(t *testing.T, a api.Assign, lit int) uint8 {
	t.Helper()
	v, e := assign.Value(a, lit)
	if e != api.OK {
		t.Fatalf("Value(%s, %d): error %d", short(a), lit, e)
	}
	return v
}

// The chapter's example.
func TestExample(t *testing.T) {
	a, e := assign.New(4)
	if e != api.OK {
		t.Fatal(e)
	}
	a = decided(t, implied(t, decided(t, implied(t, a, 4), 7), 2), 9)
	want := api.Assign{Vars: 4, Trail: []int{4, 7, 2, 9}, Starts: []int{1, 3}}
	if !isSame(a, want) {
		t.Fatalf("it is %v; want %v", a, want)
	}
	for l, value := range map[int]uint8{4: isTrue, 5: isFalse, 7: isTrue, 6: isFalse, 2: isTrue, 3: isFalse, 9: isTrue, 8: isFalse} {
		if v := valueOf(t, a, l); v != value {
			t.Errorf("%d is %d; want %d", l, v, value)
		}
	}
	for l, level := range map[int]int{4: 0, 5: 0, 7: 1, 6: 1, 2: 1, 3: 1, 9: 2, 8: 2} {
		if n := levelOf(t, a, l); n != level {
			t.Errorf("the level of %d is %d; want %d", l, n, level)
		}
	}
	for level, want := range []api.Assign{{Vars: 4, Trail: []int{4}}, {Vars: 4, Trail: []int{4, 7, 2}, Starts: []int{1}}, want} {
		if b := undone(t, a, level); !isSame(b, want) {
			t.Errorf("undone to %d it is %v; want %v", level, b, want)
		}
	}
}

// P14.1

func TestCheckExamples(t *testing.T) {
	for _, y := range []struct {
		a    api.Assign
		want api.Errno
	}{
		{api.Assign{}, api.OK}, {api.Assign{Vars: 1}, api.OK}, {api.Assign{Vars: 4000}, api.OK}, {api.Assign{Vars: 3, Trail: []int{}, Starts: []int{}}, api.OK},
		{api.Assign{Vars: 1, Trail: []int{2}}, api.OK}, {api.Assign{Vars: 1, Trail: []int{3}}, api.OK}, {api.Assign{Vars: 1, Trail: []int{3}, Starts: []int{0}}, api.OK},
		{api.Assign{Vars: 4, Trail: []int{4, 7, 2, 9}, Starts: []int{1, 3}}, api.OK}, {api.Assign{Vars: 4, Trail: []int{9, 2, 7, 4}, Starts: []int{0, 1, 2, 3}}, api.OK}, {api.Assign{Vars: 9, Trail: []int{4, 7, 2, 9}, Starts: []int{3}}, api.OK},
		// The number of variables.
		{api.Assign{Vars: -1}, api.ErrBad}, {api.Assign{Vars: 4001}, api.ErrBad}, {api.Assign{Vars: 4001, Trail: []int{2}}, api.ErrBad},
		// No literals, or not of these variables.
		{api.Assign{Vars: 3, Trail: []int{0}}, api.ErrBad}, {api.Assign{Vars: 3, Trail: []int{1}}, api.ErrBad}, {api.Assign{Vars: 3, Trail: []int{-2}}, api.ErrBad}, {api.Assign{Vars: 3, Trail: []int{2, -4}}, api.ErrBad}, {api.Assign{Vars: 3, Trail: []int{8}}, api.ErrBad}, {api.Assign{Vars: 3, Trail: []int{2, 9, 4}}, api.ErrBad}, {api.Assign{Trail: []int{2}}, api.ErrBad}, {api.Assign{Trail: []int{0}}, api.ErrBad},
		// A variable twice.
		{api.Assign{Vars: 3, Trail: []int{2, 2}}, api.ErrBad}, {api.Assign{Vars: 3, Trail: []int{2, 3}}, api.ErrBad}, {api.Assign{Vars: 3, Trail: []int{3, 2}}, api.ErrBad}, {api.Assign{Vars: 3, Trail: []int{6, 2, 7}}, api.ErrBad}, {api.Assign{Vars: 3, Trail: []int{5, 6, 3, 5}}, api.ErrBad},
		// Neighbours that are no negations of each other.
		{api.Assign{Vars: 3, Trail: []int{3, 4}}, api.OK}, {api.Assign{Vars: 3, Trail: []int{6, 5, 3}}, api.OK},
		// Starts that are no indices.
		{api.Assign{Starts: []int{0}}, api.ErrBad}, {api.Assign{Vars: 3, Starts: []int{0}}, api.ErrBad}, {api.Assign{Vars: 3, Trail: []int{2}, Starts: []int{1}}, api.ErrBad}, {api.Assign{Vars: 3, Trail: []int{2}, Starts: []int{-1}}, api.ErrBad}, {api.Assign{Vars: 3, Trail: []int{2, 4}, Starts: []int{-1, 0}}, api.ErrBad}, {api.Assign{Vars: 3, Trail: []int{2, 4}, Starts: []int{0, 2}}, api.ErrBad}, {api.Assign{Vars: 3, Trail: []int{2, 4}, Starts: []int{0, 1}}, api.OK},
		// Starts that do not increase strictly.
		{api.Assign{Vars: 3, Trail: []int{2, 4}, Starts: []int{0, 0}}, api.ErrBad}, {api.Assign{Vars: 3, Trail: []int{2, 4}, Starts: []int{1, 1}}, api.ErrBad}, {api.Assign{Vars: 3, Trail: []int{2, 4, 6}, Starts: []int{1, 0}}, api.ErrBad}, {api.Assign{Vars: 3, Trail: []int{2, 4, 6}, Starts: []int{0, 2, 1}}, api.ErrBad}, {api.Assign{Vars: 3, Trail: []int{2, 4, 6}, Starts: []int{0, 2}}, api.OK},
	} {
		if e := assign.Check(y.a); e != y.want {
			t.Errorf("Check(%v) = %d; want %d", y.a, e, y.want)
		}
	}
}

// All lists of few numbers: literals, and what is next to them; indices, and what is next to these.
func TestCheckOfAllLists(t *testing.T) {
	for vars, most := range []int{3, 4, 3, 3} {
		for trail := range allLists(around(vars), most) {
			checks(t, api.Assign{Vars: vars, Trail: trail})
			for starts := range allLists([]int{-2, -1, 0, 1, 2, 3, 4, 5}, 2) {
				checks(t, api.Assign{Vars: vars, Trail: trail, Starts: starts})
			}
			if t.Failed() {
				return
			}
		}
	}
	// Longer ones.
	for trail := range allLists(literals(3), 5) {
		checks(t, api.Assign{Vars: 3, Trail: trail, Starts: []int{0, len(trail) - 1}})
	}
	for _, trail := range [][]int{nil, {7}, {7, 2}, {4, 7, 2}, {4, 7, 2, 9}} {
		for starts := range allLists([]int{-1, 0, 1, 2, 3, 4, 5}, 5) {
			checks(t, api.Assign{Vars: 4, Trail: trail, Starts: starts})
		}
	}
}

func TestNewExamples(t *testing.T) {
	for _, y := range []struct {
		vars int
		want api.Errno
	}{
		{0, api.OK}, {1, api.OK}, {2, api.OK}, {1000, api.OK}, {1001, api.OK}, {3999, api.OK}, {4000, api.OK}, {4001, api.ErrArg}, {-1, api.ErrArg}, {-4000, api.ErrArg},
	} {
		a, e := assign.New(y.vars)
		wantVars := 0
		if y.want == api.OK {
			wantVars = y.vars
		}
		if e != y.want || a.Vars != wantVars || len(a.Trail) > 0 || len(a.Starts) > 0 {
			t.Errorf("New(%d) = %v, %d; want error %d", y.vars, a, e, y.want)
		}
	}
	for vars := -10; vars <= mostVars+10; vars++ {
		news(t, vars)
	}
}

// P14.2 to P14.4

func TestDecideAndImplyExamples(t *testing.T) {
	for _, y := range []struct {
		a                api.Assign
		lit              int
		implied, decided api.Assign
		e                api.Errno
	}{
		{api.Assign{Vars: 1}, 2, api.Assign{Vars: 1, Trail: []int{2}}, api.Assign{Vars: 1, Trail: []int{2}, Starts: []int{0}}, api.OK},
		{api.Assign{Vars: 1}, 3, api.Assign{Vars: 1, Trail: []int{3}}, api.Assign{Vars: 1, Trail: []int{3}, Starts: []int{0}}, api.OK},
		{api.Assign{Vars: 4, Trail: []int{4}}, 7, api.Assign{Vars: 4, Trail: []int{4, 7}}, api.Assign{Vars: 4, Trail: []int{4, 7}, Starts: []int{1}}, api.OK},
		{api.Assign{Vars: 4, Trail: []int{4, 7}, Starts: []int{1}}, 2, api.Assign{Vars: 4, Trail: []int{4, 7, 2}, Starts: []int{1}}, api.Assign{Vars: 4, Trail: []int{4, 7, 2}, Starts: []int{1, 2}}, api.OK},
		{api.Assign{Vars: 4, Trail: []int{4, 7}, Starts: []int{0, 1}}, 9, api.Assign{Vars: 4, Trail: []int{4, 7, 9}, Starts: []int{0, 1}}, api.Assign{Vars: 4, Trail: []int{4, 7, 9}, Starts: []int{0, 1, 2}}, api.OK},
		// The variable has a value: the literal itself, or its negation, at any level.
		{api.Assign{Vars: 4, Trail: []int{4, 7}, Starts: []int{1}}, 4, api.Assign{}, api.Assign{}, api.ErrFull}, {api.Assign{Vars: 4, Trail: []int{4, 7}, Starts: []int{1}}, 5, api.Assign{}, api.Assign{}, api.ErrFull}, {api.Assign{Vars: 4, Trail: []int{4, 7}, Starts: []int{1}}, 6, api.Assign{}, api.Assign{}, api.ErrFull}, {api.Assign{Vars: 4, Trail: []int{4, 7}, Starts: []int{1}}, 7, api.Assign{}, api.Assign{}, api.ErrFull},
	} {
		if b, e := assign.Imply(y.a, y.lit); !isSame(b, y.implied) || e != y.e {
			t.Errorf("Imply(%v, %d) = %v, %d; want %v, %d", y.a, y.lit, b, e, y.implied, y.e)
		}
		if b, e := assign.Decide(y.a, y.lit); !isSame(b, y.decided) || e != y.e {
			t.Errorf("Decide(%v, %d) = %v, %d; want %v, %d", y.a, y.lit, b, e, y.decided, y.e)
		}
	}
}

func TestValueAndLevelExamples(t *testing.T) {
	// Two literals before the first decision, one level with the decision alone, and one with two more.
	a := api.Assign{Vars: 7, Trail: []int{4, 9, 7, 2, 13, 10}, Starts: []int{2, 3}}
	for _, y := range []struct {
		lit   int
		value uint8
		level int
		e     api.Errno
	}{
		{4, isTrue, 0, api.OK}, {5, isFalse, 0, api.OK}, {9, isTrue, 0, api.OK}, {8, isFalse, 0, api.OK}, {7, isTrue, 1, api.OK}, {6, isFalse, 1, api.OK}, {2, isTrue, 2, api.OK}, {3, isFalse, 2, api.OK}, {13, isTrue, 2, api.OK}, {12, isFalse, 2, api.OK}, {10, isTrue, 2, api.OK}, {11, isFalse, 2, api.OK},
		{14, isNone, 0, api.ErrNone}, {15, isNone, 0, api.ErrNone},
	} {
		if v, e := assign.Value(a, y.lit); v != y.value || e != api.OK {
			t.Errorf("Value(%v, %d) = %d, %d; want %d", a, y.lit, v, e, y.value)
		}
		if level, e := assign.Level(a, y.lit); level != y.level || e != y.e {
			t.Errorf("Level(%v, %d) = %d, %d; want %d, %d", a, y.lit, level, e, y.level, y.e)
		}
	}
}

func TestUndoExamples(t *testing.T) {
	a := api.Assign{Vars: 7, Trail: []int{4, 9, 7, 2, 13, 10}, Starts: []int{2, 3}}
	for level, want := range []api.Assign{{Vars: 7, Trail: []int{4, 9}}, {Vars: 7, Trail: []int{4, 9, 7}, Starts: []int{2}}, a} {
		if b, e := assign.Undo(a, level); !isSame(b, want) || e != api.OK {
			t.Errorf("Undo(%v, %d) = %v, %d; want %v", a, level, b, e, want)
		}
	}
	for _, level := range []int{-1, 3, 4, 6} {
		if b, e := assign.Undo(a, level); !isSame(b, api.Assign{}) || e != api.ErrArg {
			t.Errorf("Undo(%v, %d) = %v, %d", a, level, b, e)
		}
	}
	// There is nothing before the first decision.
	a = api.Assign{Vars: 2, Trail: []int{5, 2}, Starts: []int{0, 1}}
	if b, e := assign.Undo(a, 0); !isSame(b, api.Assign{Vars: 2}) || e != api.OK {
		t.Errorf("Undo(%v, 0) = %v, %d", a, b, e)
	}
	// There is no decision.
	a = api.Assign{Vars: 2, Trail: []int{5, 2}}
	if b, e := assign.Undo(a, 0); !isSame(b, a) || e != api.OK {
		t.Errorf("Undo(%v, 0) = %v, %d", a, b, e)
	}
}

// All assignments of few variables, with all numbers that are literals, or next to them, and all levels.
func TestAllAssignments(t *testing.T) {
	for vars, count := range []int{1, 5, 41, 493} {
		all := allAssigns(vars)
		if len(all) != count {
			t.Errorf("there are %d assignments of %d variables; want %d", len(all), vars, count)
		}
		for _, a := range all {
			checks(t, a)
			for _, n := range around(vars) {
				withLiteral(t, a, n)
			}
			for level := -2; level <= vars+2; level++ {
				undoes(t, a, level)
			}
			if t.Failed() {
				return
			}
		}
	}
	for _, a := range allAssigns(4) {
		for _, l := range literals(4) {
			withLiteral(t, a, l)
		}
		for level := range len(a.Starts) + 1 {
			undoes(t, a, level)
		}
		if t.Failed() {
			return
		}
	}
}

func TestDrawnAssignments(t *testing.T) {
	rnd := rand.New(rand.NewSource(141))
	counts := map[uint8]int{}
	for range 300 {
		vars := max(1, drawnVars(rnd))
		a := drawnAssign(rnd, vars, rnd.Intn(101), rnd.Intn(101))
		checks(t, a)
		for range 8 {
			l := 2 + rnd.Intn(2*vars)
			withLiteral(t, a, l)
			value, _ := assign.Value(a, l)
			counts[value]++
		}
		for _, n := range []int{0, 1, 2, 3, 2 * vars, 2*vars + 1, 2*vars + 2, 2*vars + 3} {
			withLiteral(t, a, n)
		}
		for _, level := range []int{-1, 0, rnd.Intn(len(a.Starts) + 1), rnd.Intn(len(a.Starts) + 1), len(a.Starts), len(a.Starts) + 1} {
			undoes(t, a, level)
		}
		if t.Failed() {
			return
		}
	}
	for _, value := range []uint8{isFalse, isTrue, isNone} {
		if counts[value] < 300 {
			t.Errorf("literals had these values: %v", counts)
		}
	}
}

// One fault in an assignment that is valid otherwise.
func TestCheckOfDrawnAssignments(t *testing.T) {
	rnd := rand.New(rand.NewSource(142))
	wrong := 0
	for range 3000 {
		vars := drawnVars(rnd)
		a := drawnAssign(rnd, vars, rnd.Intn(101), rnd.Intn(101))
		if len(a.Trail) > 0 {
			at := rnd.Intn(len(a.Trail))
			switch rnd.Intn(3) {
			case 0:
				a.Trail[at] = rnd.Intn(2*vars+8) - 3
			case 1:
				a.Trail = slices.Insert(a.Trail, at, a.Trail[rnd.Intn(len(a.Trail))]^rnd.Intn(2))
			}
		}
		if len(a.Starts) > 0 {
			at := rnd.Intn(len(a.Starts))
			switch rnd.Intn(4) {
			case 0:
				a.Starts[at] += rnd.Intn(5) - 2
			case 1:
				a.Starts = slices.Insert(a.Starts, at, rnd.Intn(len(a.Trail)+2)-1)
			case 2:
				a.Starts[at] = len(a.Trail) - rnd.Intn(3)
			}
		}
		checks(t, a)
		if t.Failed() {
			return
		}
		if assign.Check(a) != api.OK {
			wrong++
		}
	}
	if wrong < 1000 || wrong > 2500 {
		t.Errorf("%d assignments of 3000 were not valid", wrong)
	}
}

// The greatest assignments that there are.
func TestWholeAssignments(t *testing.T) {
	trail, starts := make([]int, mostVars), make([]int, mostVars)
	for i := range mostVars {
		trail[i], starts[i] = 2*(mostVars-i)+i%2, i
	}
	for _, a := range []api.Assign{{Vars: mostVars, Trail: trail}, {Vars: mostVars, Trail: trail, Starts: starts}} {
		checks(t, a)
		for _, l := range []int{2, 3, 4, 5, 4000, 4001, 7998, 7999, 8000, 8001} {
			withLiteral(t, a, l)
		}
		for _, level := range []int{-1, 0, 1, 2, 1999, 2000, 3998, 3999, 4000, 4001} {
			undoes(t, a, level)
		}
		// One literal more than there are variables.
		for _, l := range []int{2, 3, 8000, 8001, 8002} {
			longer := api.Assign{Vars: mostVars, Trail: append(slices.Clone(trail), l), Starts: a.Starts}
			checks(t, longer)
		}
		checks(t, api.Assign{Vars: mostVars, Trail: trail, Starts: append(slices.Clone(a.Starts), mostVars)})
		checks(t, api.Assign{Vars: mostVars - 1, Trail: trail, Starts: a.Starts})
	}
	// Up to the last literal.
	for _, l := range []int{2, 3} {
		a := api.Assign{Vars: mostVars, Trail: trail[:mostVars-1], Starts: starts[:mostVars-1]}
		withLiteral(t, a, l)
		withLiteral(t, api.Assign{Vars: mostVars, Trail: trail[:mostVars-1]}, l)
	}
}

// The last literal of each number of variables, and the first one that is none.
func TestTheLastVariable(t *testing.T) {
	for vars := range mostVars + 1 {
		for n := 2*vars - 1; n <= 2*vars+3; n++ {
			a, b := api.Assign{Vars: vars}, api.Assign{Vars: vars, Trail: []int{n}}
			want, wantBad := api.OK, api.OK
			if n < 2 || n > 2*vars+1 {
				want, wantBad = api.ErrArg, api.ErrBad
			}
			if e := assign.Check(b); e != wantBad {
				t.Fatalf("Check(%v) = %d; want %d", b, e, wantBad)
			}
			if _, e := assign.Imply(a, n); e != want {
				t.Fatalf("Imply(%v, %d): error %d; want %d", a, n, e, want)
			}
			if _, e := assign.Decide(a, n); e != want {
				t.Fatalf("Decide(%v, %d): error %d; want %d", a, n, e, want)
			}
			if _, e := assign.Value(a, n); e != want {
				t.Fatalf("Value(%v, %d): error %d; want %d", a, n, e, want)
			}
			withLiteral(t, a, n)
			withLiteral(t, b, n)
		}
	}
}
