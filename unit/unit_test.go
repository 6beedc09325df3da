package unit_test

import (
	"math/rand"
	"slices"
	"testing"

	"spiritlevel/api"
	"spiritlevel/assign"
	"spiritlevel/unit"
)

// The chapter's example.
func TestExample(t *testing.T) {
	a, _ := assign.New(5)
	a, e := assign.Imply(a, 2)
	if e != api.OK {
		t.Fatal(e)
	}
	for _, y := range []struct {
		l     [][]int
		trail []int
		at    int
	}{
		{[][]int{{3, 4}, {5, 6}, {8, 10}}, []int{2, 4, 6}, -1},
		{[][]int{{3, 4}, {5, 6}, {8, 10}, {7, 8}}, []int{2, 4, 6, 8}, -1},
		{[][]int{{3, 4}, {3, 5}, {8, 10}}, []int{2, 4}, 1},
	} {
		b, at, e := unit.Run(a, y.l)
		if !isSame(b, api.Assign{Vars: 5, Trail: y.trail}) || at != y.at || e != api.OK {
			t.Errorf("Run(%v, %v) = %v, %d, %d; want %v, %d", a, y.l, b, at, e, y.trail, y.at)
		}
	}
	b, _ := run(t, a, [][]int{{3, 4}, {5, 6}, {8, 10}})
	if s, lit := state(t, b, []int{8, 10}); s != isOpen || lit != 0 {
		t.Errorf("the last clause is %d, %d", s, lit)
	}
}

// P15.1

func TestStateExamples(t *testing.T) {
	// 2, 7 and 10 are true, 3, 6 and 11 false; the variables 2 and 4 have no value.
	a := api.Assign{Vars: 5, Trail: []int{10, 2, 7}, Starts: []int{1}}
	for _, y := range []struct {
		c     []int
		state uint8
		lit   int
	}{
		{nil, isFalse, 0}, {[]int{}, isFalse, 0},
		{[]int{3}, isFalse, 0}, {[]int{6}, isFalse, 0}, {[]int{3, 6}, isFalse, 0}, {[]int{3, 6, 11}, isFalse, 0},
		{[]int{2}, isTrue, 0}, {[]int{7}, isTrue, 0}, {[]int{2, 7, 10}, isTrue, 0}, {[]int{2, 6, 11}, isTrue, 0}, {[]int{3, 6, 10}, isTrue, 0}, {[]int{3, 7, 11}, isTrue, 0},
		// True, also where one or more literals have no value.
		{[]int{2, 4}, isTrue, 0}, {[]int{4, 7}, isTrue, 0}, {[]int{3, 4, 7}, isTrue, 0}, {[]int{4, 8, 10}, isTrue, 0}, {[]int{2, 5, 9}, isTrue, 0}, {[]int{5, 6, 9, 10}, isTrue, 0},
		{[]int{4}, isUnit, 4}, {[]int{5}, isUnit, 5}, {[]int{8}, isUnit, 8}, {[]int{9}, isUnit, 9}, {[]int{3, 4}, isUnit, 4}, {[]int{5, 6}, isUnit, 5}, {[]int{3, 6, 9}, isUnit, 9}, {[]int{3, 6, 8, 11}, isUnit, 8}, {[]int{3, 5, 6, 11}, isUnit, 5},
		{[]int{4, 8}, isOpen, 0}, {[]int{5, 9}, isOpen, 0}, {[]int{3, 4, 9}, isOpen, 0}, {[]int{5, 6, 8, 11}, isOpen, 0}, {[]int{3, 5, 6, 8, 11}, isOpen, 0},
	} {
		state, lit, e := unit.State(a, y.c)
		if state != y.state || lit != y.lit || e != api.OK {
			t.Errorf("State(%v, %v) = %d, %d, %d; want %d, %d", a, y.c, state, lit, e, y.state, y.lit)
		}
	}
	// Without literals, and without variables.
	for _, y := range []struct {
		vars  int
		c     []int
		state uint8
		lit   int
	}{
		{0, nil, isFalse, 0}, {1, nil, isFalse, 0}, {1, []int{2}, isUnit, 2}, {1, []int{3}, isUnit, 3}, {2, []int{2, 5}, isOpen, 0}, {4000, []int{8001}, isUnit, 8001}, {4000, []int{8000}, isUnit, 8000}, {4000, []int{2, 8001}, isOpen, 0},
	} {
		state, lit, e := unit.State(api.Assign{Vars: y.vars}, y.c)
		if state != y.state || lit != y.lit || e != api.OK {
			t.Errorf("State of %d variables, %v = %d, %d, %d; want %d, %d", y.vars, y.c, state, lit, e, y.state, y.lit)
		}
	}
}

// All assignments and clauses of few variables, and lists that are next to clauses.
func TestAllStates(t *testing.T) {
	for vars := range 5 {
		clauses := allClauses(vars)
		for _, a := range allAssigns(vars) {
			for _, c := range clauses {
				tells(t, a, c)
			}
			if t.Failed() {
				return
			}
		}
	}
	for vars := range 3 {
		for _, a := range allAssigns(vars) {
			for n := -3; n <= 2*vars+4; n++ {
				tells(t, a, []int{n})
				for m := -3; m <= 2*vars+4; m++ {
					tells(t, a, []int{n, m})
					tells(t, a, []int{2, n, m})
				}
			}
			if t.Failed() {
				return
			}
		}
	}
}

func TestDrawnStates(t *testing.T) {
	rnd := rand.New(rand.NewSource(151))
	counts := map[uint8]int{}
	for range 3000 {
		vars := 1 + rnd.Intn(30)
		if rnd.Intn(20) == 0 {
			vars = mostVars - rnd.Intn(3)
		}
		a := drawnAssign(rnd, vars, rnd.Intn(101), rnd.Intn(101))
		c := drawnClause(rnd, vars, rnd.Intn(7))
		// Against the literals that are true, so that not most clauses are so.
		for i, l := range c {
			if slices.Contains(a.Trail, l) && rnd.Intn(4) > 0 {
				c[i] = negation(l)
			}
		}
		tells(t, a, c)
		s, _ := state(t, a, c)
		counts[s]++
	}
	for s := isFalse; s <= isUnit; s++ {
		if counts[s] < 300 {
			t.Errorf("clauses had these states: %v", counts)
		}
	}
}

// P15.2

func TestRunExamples(t *testing.T) {
	for _, y := range []struct {
		a     api.Assign
		l     [][]int
		trail []int
		at    int
	}{
		// Nothing is to be implied.
		{api.Assign{}, nil, nil, -1}, {api.Assign{Vars: 3}, nil, nil, -1}, {api.Assign{Vars: 3}, [][]int{{2, 4}, {3, 7}}, nil, -1}, {api.Assign{Vars: 3, Trail: []int{2}}, [][]int{{2, 4}, {2}, {4, 7}}, []int{2}, -1},
		// The empty clause is false.
		{api.Assign{}, [][]int{nil}, nil, 0}, {api.Assign{}, [][]int{{}, {}}, nil, 0}, {api.Assign{Vars: 2}, [][]int{{2, 4}, {2}, {}}, nil, 2}, {api.Assign{Vars: 2, Trail: []int{2}}, [][]int{{2}, {}, {}}, []int{2}, 1},
		// One that is false at once comes before those that are unit.
		{api.Assign{Vars: 3, Trail: []int{3}}, [][]int{{4}, {2, 6}, {2}}, []int{3}, 2}, {api.Assign{Vars: 3, Trail: []int{3}}, [][]int{{4}, {2}, {}}, []int{3}, 1},
		// Those of one literal, in their order.
		{api.Assign{Vars: 3}, [][]int{{4}, {7}, {2}}, []int{4, 7, 2}, -1}, {api.Assign{Vars: 3}, [][]int{{4}, {4}, {4}}, []int{4}, -1}, {api.Assign{Vars: 3}, [][]int{{4}, {5}}, []int{4}, 1}, {api.Assign{Vars: 3}, [][]int{{5}, {2}, {4}}, []int{5}, 2},
		// The first one is taken in each round: what comes to be unit before others is taken before them.
		{api.Assign{Vars: 4}, [][]int{{5, 8}, {3, 6}, {2}, {4}}, []int{2, 6, 4, 8}, -1}, {api.Assign{Vars: 4}, [][]int{{7, 8}, {5, 6}, {3, 4}, {2}}, []int{2, 4, 6, 8}, -1}, {api.Assign{Vars: 4}, [][]int{{2}, {4}, {3, 6}, {5, 8}}, []int{2, 4, 6, 8}, -1}, {api.Assign{Vars: 4}, [][]int{{3, 6}, {2}, {5, 8}, {4}}, []int{2, 6, 4, 8}, -1},
		// It ends with the first one that is false, as soon as one is.
		{api.Assign{Vars: 4}, [][]int{{3, 5}, {3, 4}, {2}, {8}}, []int{2, 5}, 1}, {api.Assign{Vars: 4}, [][]int{{3, 4}, {3, 5}, {2}, {8}}, []int{2, 4}, 1}, {api.Assign{Vars: 4}, [][]int{{8}, {3, 9}, {3, 4}, {2}, {5, 9}}, []int{8, 3}, 3}, {api.Assign{Vars: 3}, [][]int{{3, 5}, {3}, {5}, {2}}, []int{3}, 3},
		// A clause that was unit, and then is true, or is false.
		{api.Assign{Vars: 3, Trail: []int{2}}, [][]int{{3, 6}, {6}, {3, 5, 6}, {3, 4}}, []int{2, 6, 4}, -1}, {api.Assign{Vars: 3, Trail: []int{2}}, [][]int{{3, 6}, {3, 4}, {3, 7}}, []int{2, 6}, 2},
		// Behind levels, all goes to the last one.
		{api.Assign{Vars: 5, Trail: []int{4, 7, 2, 9}, Starts: []int{1, 3}}, [][]int{{6, 10}}, []int{4, 7, 2, 9, 10}, -1}, {api.Assign{Vars: 5, Trail: []int{4, 7, 2, 9}, Starts: []int{1, 3}}, [][]int{{6, 10}, {5, 11}}, []int{4, 7, 2, 9, 10}, 1}, {api.Assign{Vars: 5, Trail: []int{4, 7, 2, 9}, Starts: []int{0, 1, 2, 3}}, [][]int{{3, 5, 6, 8}}, []int{4, 7, 2, 9}, 0},
		// All variables have values.
		{api.Assign{Vars: 2, Trail: []int{2, 5}}, [][]int{{2, 4}, {5}, {3, 5}}, []int{2, 5}, -1}, {api.Assign{Vars: 2, Trail: []int{2, 5}}, [][]int{{2, 4}, {5}, {3, 4}}, []int{2, 5}, 2},
	} {
		b, at, e := unit.Run(y.a, y.l)
		want := api.Assign{Vars: y.a.Vars, Trail: y.trail, Starts: y.a.Starts}
		if !isSame(b, want) || at != y.at || e != api.OK {
			t.Errorf("Run(%v, %v) = %v, %d, %d; want %v, %d", y.a, y.l, b, at, e, want, y.at)
		}
	}
}

// All assignments of few variables, with all lists of few clauses.
func TestAllRuns(t *testing.T) {
	for vars, most := range []int{3, 5, 3, 2} {
		assigns := allAssigns(vars)
		allLists(allClauses(vars), most, func(l [][]int) {
			for _, a := range assigns {
				if t.Failed() {
					return
				}
				runs(t, a, l)
			}
		})
	}
	// More clauses, of two literals at most.
	short := slices.DeleteFunc(allClauses(3), func(c []int) bool { return len(c) == 0 || len(c) > 2 })
	allLists(short, 3, func(l [][]int) {
		for _, a := range []api.Assign{{Vars: 3}, {Vars: 3, Trail: []int{5}}, {Vars: 3, Trail: []int{4, 2}, Starts: []int{1}}} {
			if t.Failed() {
				return
			}
			runs(t, a, l)
		}
	})
}

func TestDrawnRuns(t *testing.T) {
	rnd := rand.New(rand.NewSource(152))
	ended, without, implied := 0, 0, 0
	for i := range 20000 {
		vars := 1 + rnd.Intn(40)
		a := drawnAssign(rnd, vars, rnd.Intn(40), rnd.Intn(101))
		l := drawnClauses(rnd, vars, rnd.Intn(3*vars), 1+i%2, 2+rnd.Intn(4))
		runs(t, a, l)
		if t.Failed() {
			return
		}
		b, at := run(t, a, l)
		implied += len(b.Trail) - len(a.Trail)
		if at >= 0 {
			ended++
		} else if len(b.Trail) > len(a.Trail) {
			without++
		}
	}
	if ended < 5000 || without < 2000 || implied < 20000 {
		t.Errorf("%d ended with a false clause, %d implied literals without one, and there were %d of them", ended, without, implied)
	}
}

// hidden are clauses with a literal each that is true under hidden values, and others drawn: none of them is false under these.
func hidden(rnd *rand.Rand, vars, count, size int) [][]int {
	values := map[int]bool{}
	for v := 1; v <= vars; v++ {
		values[2*v+rnd.Intn(2)] = true
	}
	var l [][]int
	for range count {
		c := drawnClause(rnd, vars, 1+rnd.Intn(size))
		at := rnd.Intn(len(c))
		if !values[c[at]] {
			c[at] = negation(c[at])
		}
		l = append(l, c)
	}
	return l
}

// Many literals are implied, and few clauses are false.
func TestDrawnRunsThatGoFar(t *testing.T) {
	rnd := rand.New(rand.NewSource(153))
	furthest := 0
	for range 300 {
		vars := 50 + rnd.Intn(150)
		l := hidden(rnd, vars, 3*vars, 5)
		if rnd.Intn(2) == 0 {
			l = append(l, drawnClauses(rnd, vars, 5, 2, 4)...)
		}
		a := api.Assign{Vars: vars}
		runs(t, a, l)
		if t.Failed() {
			return
		}
		b, _ := run(t, a, l)
		furthest = max(furthest, len(b.Trail))
	}
	if furthest < 100 {
		t.Errorf("at most %d literals were implied", furthest)
	}
}

// Around the sizes of words: each clause of a list may be the one that is unit, or false.
func TestEachIndex(t *testing.T) {
	for _, size := range []int{1, 2, 62, 63, 64, 65, 66, 127, 128, 129, 130, 200} {
		l := slices.Repeat([][]int{{2, 4}}, size)
		for i := range size {
			l[i] = []int{6}
			b, at := run(t, api.Assign{Vars: 3}, l)
			if !slices.Equal(b.Trail, []int{6}) || at != -1 {
				t.Fatalf("of %d clauses the one with the index %d is unit: %v, %d", size, i, b, at)
			}
			b, at = run(t, api.Assign{Vars: 3, Trail: []int{7}}, l)
			if !slices.Equal(b.Trail, []int{7}) || at != i {
				t.Fatalf("of %d clauses the one with the index %d is false: %v, %d", size, i, b, at)
			}
			// The first one of the others makes it false, unless it stands in front of them.
			l[i] = []int{5, 7}
			runs(t, api.Assign{Vars: 3, Trail: []int{3, 6}, Starts: []int{1}}, l)
			l[i] = []int{2, 4}
		}
	}
}

// chain are clauses of which each one implies the literal of the next variable, from the first one on.
func chain(vars int) [][]int {
	l := [][]int{{2}}
	for v := 2; v <= vars; v++ {
		l = append(l, []int{2*v - 1, 2 * v})
	}
	return l
}

// As many variables as there may be, one implied by the other: the clauses in order, in the opposite one, or in any one.
func TestLongChains(t *testing.T) {
	var all []int
	for v := 1; v <= mostVars; v++ {
		all = append(all, 2*v)
	}
	rnd := rand.New(rand.NewSource(154))
	l := chain(mostVars)
	for i := range 10 {
		b, at := run(t, api.Assign{Vars: mostVars}, l)
		if !slices.Equal(b.Trail, all) || at != -1 {
			t.Fatalf("of a chain it is %s, %d", short(b), at)
		}
		// What is implied last is against a clause.
		b, at = run(t, api.Assign{Vars: mostVars}, append(slices.Clone(l), []int{3, 8001}))
		if !slices.Equal(b.Trail, all) || at != mostVars {
			t.Fatalf("of a chain that ends with a false clause it is %s, %d", short(b), at)
		}
		if i == 0 {
			slices.Reverse(l)
		} else {
			rnd.Shuffle(len(l), func(i, j int) { l[i], l[j] = l[j], l[i] })
		}
	}
}

// As many clauses as there may be, over as many variables.
func TestTheMostClauses(t *testing.T) {
	rnd := rand.New(rand.NewSource(155))
	for _, size := range []int{2, 3} {
		l := hidden(rnd, mostVars, mostClauses, size)
		a := api.Assign{Vars: mostVars}
		runs(t, a, l)
		b, at := run(t, a, l)
		if at != -1 || len(b.Trail) < 3000 {
			t.Errorf("of the most clauses it is %s, %d", short(b), at)
		}
	}
	// As the last one of so many one is unit, or false.
	l := append(slices.Repeat([][]int{{2, 4}}, mostClauses-1), []int{8001})
	b, at := run(t, api.Assign{Vars: mostVars}, l)
	if !slices.Equal(b.Trail, []int{8001}) || at != -1 {
		t.Errorf("of the most clauses it is %v, %d", b, at)
	}
	b, at = run(t, api.Assign{Vars: mostVars, Trail: []int{8000}}, l)
	if !slices.Equal(b.Trail, []int{8000}) || at != mostClauses-1 {
		t.Errorf("of the most clauses it is %v, %d", b, at)
	}
	if _, _, e := unit.Run(api.Assign{Vars: mostVars}, append(l, []int{2})); e != api.ErrMany {
		t.Errorf("with a clause more it is %d", e)
	}
}

// Clauses with a literal of each variable: the last one left is implied.
func TestLongClauses(t *testing.T) {
	rnd := rand.New(rand.NewSource(156))
	for _, vars := range []int{1, 2, 3, 50, 999, mostVars} {
		c := drawnClause(rnd, vars, vars)
		a := api.Assign{Vars: vars}
		for left, at := range rnd.Perm(vars) {
			if left == 0 || left >= vars-3 {
				tells(t, a, c)
				runs(t, a, [][]int{c, c})
			}
			a.Trail = append(a.Trail, negation(c[at]))
		}
		tells(t, a, c)
		runs(t, a, [][]int{c, c})
		// One literal after the other is false by the other clauses.
		var l [][]int
		for _, lit := range a.Trail[:vars-1] {
			l = append(l, []int{lit})
		}
		b, at := run(t, api.Assign{Vars: vars}, append(l, c))
		if want := append(slices.Clone(a.Trail[:vars-1]), negation(a.Trail[vars-1])); !slices.Equal(b.Trail, want) || at != -1 {
			t.Errorf("of a clause of %d literals it is %s, %d", vars, short(b), at)
		}
		l = append(l, []int{a.Trail[vars-1]}, c)
		b, at = run(t, api.Assign{Vars: vars}, l)
		if !slices.Equal(b.Trail, a.Trail) || at != vars {
			t.Errorf("of a clause of %d literals that is false at the end it is %s, %d", vars, short(b), at)
		}
	}
}
