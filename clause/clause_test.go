package clause_test

import (
	"math/rand"
	"slices"
	"testing"

	"spiritlevel/api"
	"spiritlevel/clause"
)

// P13.1

func TestCheckExamples(t *testing.T) {
	for _, y := range []struct {
		vars int
		c    []int
		want api.Errno
	}{
		{0, nil, api.OK}, {0, []int{}, api.OK}, {3, nil, api.OK},
		{1, []int{2}, api.OK}, {1, []int{3}, api.OK}, {3, []int{2, 4, 7}, api.OK}, {3, []int{3, 5, 7}, api.OK}, {9, []int{5, 19}, api.OK},
		// No literals.
		{3, []int{0}, api.ErrBad}, {3, []int{1}, api.ErrBad}, {3, []int{-2}, api.ErrBad}, {3, []int{-3, 2}, api.ErrBad}, {0, []int{2}, api.ErrBad}, {0, []int{0}, api.ErrBad},
		// Literals of variables that are too great.
		{1, []int{4}, api.ErrBad}, {2, []int{2, 6}, api.ErrBad}, {2, []int{2, 5}, api.OK}, {3, []int{2, 4, 8}, api.ErrBad}, {3, []int{9}, api.ErrBad},
		// Not in order, or there twice.
		{3, []int{4, 2}, api.ErrBad}, {3, []int{2, 7, 4}, api.ErrBad}, {3, []int{2, 2}, api.ErrBad}, {3, []int{2, 4, 4}, api.ErrBad}, {3, []int{7, 7}, api.ErrBad},
		// With a negation.
		{3, []int{2, 3}, api.ErrBad}, {3, []int{3, 2}, api.ErrBad}, {3, []int{2, 4, 5}, api.ErrBad}, {3, []int{4, 5, 7}, api.ErrBad}, {3, []int{2, 6, 7}, api.ErrBad},
		// Neighbours that are no negations of each other.
		{3, []int{3, 4}, api.OK}, {3, []int{5, 6}, api.OK}, {3, []int{3, 4, 6}, api.OK},
	} {
		if e := clause.Check(y.vars, y.c); e != y.want {
			t.Errorf("Check(%d, %v) = %d; want %d", y.vars, y.c, e, y.want)
		}
	}
}

func TestMakeExamples(t *testing.T) {
	for _, y := range []struct {
		vars    int
		l, want []int
		always  bool
	}{
		// The chapter's.
		{3, []int{7, 2, 7, 4}, []int{2, 4, 7}, false}, {2, []int{5, 4}, nil, true},
		{0, nil, nil, false}, {5, nil, nil, false}, {5, []int{}, nil, false},
		{1, []int{2}, []int{2}, false}, {1, []int{3}, []int{3}, false}, {1, []int{3, 3, 3}, []int{3}, false},
		{3, []int{2, 4, 7}, []int{2, 4, 7}, false}, {3, []int{7, 4, 2}, []int{2, 4, 7}, false}, {3, []int{3, 4}, []int{3, 4}, false}, {3, []int{4, 3, 4, 3}, []int{3, 4}, false},
		{1, []int{2, 3}, nil, true}, {1, []int{3, 2}, nil, true}, {1, []int{2, 2, 3, 3}, nil, true},
		{4, []int{2, 9, 4, 5}, nil, true}, {4, []int{3, 6, 9, 2}, nil, true}, {4, []int{9, 2, 4, 8}, nil, true}, {4, []int{7, 8, 5, 7, 6}, nil, true},
	} {
		c, always, e := clause.Make(y.vars, y.l)
		if !slices.Equal(c, y.want) || always != y.always || e != api.OK {
			t.Errorf("Make(%d, %v) = %v, %t, %d; want %v, %t", y.vars, y.l, c, always, e, y.want, y.always)
		}
	}
}

func TestMakeOfNoLiterals(t *testing.T) {
	for _, y := range []struct {
		vars int
		l    []int
	}{
		{0, []int{2}}, {0, []int{0}}, {0, []int{1}}, {0, []int{-1}},
		{3, []int{0}}, {3, []int{1}}, {3, []int{-1}}, {3, []int{-2}}, {3, []int{-4, 4}}, {3, []int{8}}, {3, []int{9}}, {3, []int{2, 4, 8}}, {3, []int{8, 2}}, {3, []int{2, 0, 4}}, {3, []int{1, 1}},
		// Something else is always true, or there twice.
		{3, []int{2, 3, 8}}, {3, []int{8, 2, 3}}, {3, []int{2, 8, 3}}, {3, []int{2, 3, 1}}, {3, []int{0, 1}}, {3, []int{8, 9}}, {3, []int{-1, -2}}, {3, []int{-2, -3}}, {3, []int{4, 4, 9}},
	} {
		if c, always, e := clause.Make(y.vars, y.l); len(c) > 0 || always || e != api.ErrBad {
			t.Errorf("Make(%d, %v) = %v, %t, %d", y.vars, y.l, c, always, e)
		}
	}
}

// All lists of few numbers: literals, and what is next to them.
func TestCheckAndMakeOfAllLists(t *testing.T) {
	for vars, most := range []int{5, 5, 4, 4} {
		for list := range allLists(around(vars), most) {
			checks(t, vars, list)
			makes(t, vars, list)
			if t.Failed() {
				return
			}
		}
	}
	// Longer ones, of literals only.
	for list := range allLists(literals(3), 6) {
		checks(t, 3, list)
		makes(t, 3, list)
		if t.Failed() {
			return
		}
	}
}

// The last literal of each number of variables, and the first one that is none.
func TestCheckAndMakeAtTheLastVariable(t *testing.T) {
	for vars := range mostVars + 1 {
		for n := 2*vars - 1; n <= 2*vars+3; n++ {
			want := api.OK
			if n < 2 || n > 2*vars+1 {
				want = api.ErrBad
			}
			if e := clause.Check(vars, []int{n}); e != want {
				t.Fatalf("Check(%d, [%d]) = %d; want %d", vars, n, e, want)
			}
			if c, always, e := clause.Make(vars, []int{n, n}); (len(c) == 1) != (want == api.OK) || always || e != want {
				t.Fatalf("Make(%d, [%d %d]) = %v, %t, %d; want error %d", vars, n, n, c, always, e, want)
			}
			checks(t, vars, []int{2, n})
			makes(t, vars, []int{n, 2})
		}
	}
}

// whole is a clause with each variable, or its negation.
func whole(vars int) []int {
	var c []int
	for v := 1; v <= vars; v++ {
		c = append(c, 2*v+v%3%2)
	}
	return c
}

func TestCheckAndMakeOfManyLiterals(t *testing.T) {
	rnd := rand.New(rand.NewSource(131))
	for range 50 {
		c, at := whole(mostVars), rnd.Intn(mostVars)
		lists := [][]int{c, slices.Insert(slices.Clone(c), at, c[at]), slices.Insert(slices.Clone(c), at, negation(c[at])), slices.Insert(slices.Clone(c), at+1, negation(c[at]))}
		for _, n := range []int{0, 1, -2, 8002, 8003} {
			wrong := slices.Clone(c)
			wrong[at] = n
			lists = append(lists, wrong)
		}
		swapped := slices.Clone(c)
		swapped[at], swapped[mostVars-1-at] = swapped[mostVars-1-at], swapped[at]
		for _, list := range append(lists, swapped, slices.Repeat(c, 3)) {
			checks(t, mostVars, list)
			makes(t, mostVars, list)
			rnd.Shuffle(len(list), func(i, j int) { list[i], list[j] = list[j], list[i] })
			checks(t, mostVars, list)
			makes(t, mostVars, list)
		}
		if t.Failed() {
			return
		}
	}
	all := literals(mostVars)
	checks(t, mostVars, all)
	makes(t, mostVars, all)
	makes(t, mostVars-1, all)
	// Of one literal very often, and with a negation at one end.
	often := slices.Repeat([]int{8001}, 1000000)
	checks(t, mostVars, often)
	makes(t, mostVars, often)
	makes(t, mostVars, append(often, 8000))
	makes(t, mostVars, append([]int{8000}, often...))
	makes(t, mostVars-1, often)
}

func TestCheckAndMakeOfDrawnLists(t *testing.T) {
	rnd := rand.New(rand.NewSource(132))
	clauses, always := 0, 0
	for range 5000 {
		vars := drawnVars(rnd)
		list := drawnClause(rnd, vars, rnd.Intn(30))
		for range rnd.Intn(3) {
			// One number that may be anything.
			list = slices.Insert(list, rnd.Intn(len(list)+1), rnd.Intn(2*vars+8)-3)
		}
		if rnd.Intn(2) == 0 {
			rnd.Shuffle(len(list), func(i, j int) { list[i], list[j] = list[j], list[i] })
		}
		checks(t, vars, list)
		makes(t, vars, list)
		if t.Failed() {
			return
		}
		if wantedCheck(vars, list) == api.OK {
			clauses++
		}
		if _, is, _ := wantedMake(vars, list); is {
			always++
		}
	}
	if clauses < 500 || always < 200 {
		t.Errorf("%d clauses, and %d lists that are always true", clauses, always)
	}
}

// P13.2

func TestTrueExamples(t *testing.T) {
	for _, y := range []struct {
		c      []int
		values []bool
		want   bool
	}{
		{nil, nil, false}, {nil, []bool{x, x}, false}, {[]int{}, []bool{o}, false},
		{[]int{2}, []bool{x}, true}, {[]int{2}, []bool{o}, false}, {[]int{3}, []bool{x}, false}, {[]int{3}, []bool{o}, true},
		{[]int{2, 4, 7}, []bool{o, o, x}, false}, {[]int{2, 4, 7}, []bool{o, o, o}, true}, {[]int{2, 4, 7}, []bool{o, x, x}, true}, {[]int{2, 4, 7}, []bool{x, o, x}, true},
		{[]int{5}, []bool{x, o, x}, true}, {[]int{5}, []bool{o, x, o}, false}, {[]int{6}, []bool{x, x, o}, false}, {[]int{6}, []bool{o, o, x}, true},
	} {
		if is, e := clause.True(y.c, y.values); is != y.want || e != api.OK {
			t.Errorf("True(%v, %v) = %t, %d; want %t", y.c, y.values, is, e, y.want)
		}
	}
}

func TestTrueOfAllLists(t *testing.T) {
	for vars, most := range []int{4, 4, 4, 3} {
		for list := range allLists(around(vars), most) {
			for _, values := range allValues(vars) {
				tells(t, list, values)
			}
			if t.Failed() {
				return
			}
		}
	}
}

func TestImpliesExamples(t *testing.T) {
	for _, y := range []struct {
		a, b []int
		want bool
	}{
		{nil, nil, true}, {nil, []int{2}, true}, {[]int{2}, nil, false}, {[]int{}, []int{}, true},
		{[]int{2}, []int{2}, true}, {[]int{2}, []int{3}, false}, {[]int{3}, []int{2}, false}, {[]int{3}, []int{4}, false},
		{[]int{2}, []int{2, 5}, true}, {[]int{5}, []int{2, 5}, true}, {[]int{2, 5}, []int{2}, false}, {[]int{2, 5}, []int{5}, false},
		{[]int{2, 7}, []int{2, 4, 7}, true}, {[]int{2, 6}, []int{2, 4, 7}, false}, {[]int{3, 4, 7}, []int{2, 4, 7}, false}, {[]int{2, 4, 7}, []int{2, 4, 7}, true}, {[]int{2, 4, 7}, []int{2, 7}, false},
	} {
		if is, e := clause.Implies(3, y.a, y.b); is != y.want || e != api.OK {
			t.Errorf("Implies(3, %v, %v) = %t, %d; want %t", y.a, y.b, is, e, y.want)
		}
	}
}

func TestImpliesOfAllClauses(t *testing.T) {
	for vars := range 6 {
		for _, a := range allClauses(vars) {
			for _, b := range allClauses(vars) {
				implies(t, vars, a, b)
			}
			if t.Failed() {
				return
			}
		}
	}
}

func TestTrueAndImpliesOfDrawnClauses(t *testing.T) {
	rnd := rand.New(rand.NewSource(133))
	implied, wereTrue := 0, 0
	for range 1500 {
		vars := drawnVars(rnd)
		b := drawnClause(rnd, vars, rnd.Intn(101))
		values := drawnValues(rnd, vars)
		if rnd.Intn(2) == 0 {
			// No literal is true, or just one.
			for _, l := range b {
				values[l/2-1] = l%2 == 1
			}
			if at := rnd.Intn(len(b) + 1); at < len(b) {
				values[b[at]/2-1] = b[at]%2 == 0
			}
		}
		tells(t, b, values)
		// Some of its literals, and then one more, or one that is another one.
		var a []int
		share := 1 + rnd.Intn(3)
		for _, l := range b {
			if rnd.Intn(share) == 0 {
				a = append(a, l)
			}
		}
		implies(t, vars, a, b)
		implies(t, vars, b, a)
		if len(a) > 0 {
			other := slices.Clone(a)
			at := rnd.Intn(len(a))
			other[at] = negation(a[at])
			implies(t, vars, other, b)
		}
		if t.Failed() {
			return
		}
		if is, _ := clause.Implies(vars, a, b); is && len(a) > 0 && len(a) < len(b) {
			implied++
		}
		if is, _ := clause.True(b, values); is {
			wereTrue++
		}
	}
	if implied < 400 || wereTrue < 400 || wereTrue > 1400 {
		t.Errorf("%d implied another clause, and %d were true", implied, wereTrue)
	}
}

// P13.3

func TestResolveExamples(t *testing.T) {
	for _, y := range []struct {
		a, b   []int
		v      int
		want   []int
		always bool
		e      api.Errno
	}{
		// The chapter's.
		{[]int{2, 4}, []int{3, 6}, 1, []int{4, 6}, false, api.OK}, {[]int{2, 4}, []int{3, 5}, 1, nil, true, api.OK},
		// The same the other way round, and at the other variable.
		{[]int{3, 6}, []int{2, 4}, 1, []int{4, 6}, false, api.OK}, {[]int{3, 5}, []int{2, 4}, 2, nil, true, api.OK},
		{[]int{2}, []int{3}, 1, nil, false, api.OK}, {[]int{7}, []int{6}, 3, nil, false, api.OK},
		{[]int{2, 4, 7}, []int{4, 6}, 3, []int{2, 4}, false, api.OK}, {[]int{2, 5, 7}, []int{4, 7}, 2, []int{2, 7}, false, api.OK}, {[]int{6}, []int{2, 4, 7}, 3, []int{2, 4}, false, api.OK}, {[]int{2, 4, 6}, []int{3, 4, 6}, 1, []int{4, 6}, false, api.OK},
		{[]int{2, 4, 6}, []int{3, 4, 7}, 1, nil, true, api.OK}, {[]int{2, 4, 6}, []int{3, 4, 7}, 3, nil, true, api.OK}, {[]int{2, 4, 6}, []int{3, 4, 7}, 2, nil, false, api.ErrNone},
		// Only one of them has the variable, or both have the same literal, or none.
		{nil, nil, 1, nil, false, api.ErrNone}, {[]int{2}, nil, 1, nil, false, api.ErrNone}, {nil, []int{3}, 1, nil, false, api.ErrNone}, {[]int{2, 4}, []int{5, 6}, 1, nil, false, api.ErrNone}, {[]int{4}, []int{3, 5}, 1, nil, false, api.ErrNone},
		{[]int{2}, []int{2}, 1, nil, false, api.ErrNone}, {[]int{3}, []int{3}, 1, nil, false, api.ErrNone}, {[]int{2}, []int{3}, 2, nil, false, api.ErrNone},
		// No variables.
		{[]int{2}, []int{3}, 0, nil, false, api.ErrNone}, {[]int{2}, []int{3}, -1, nil, false, api.ErrNone}, {[]int{2}, []int{3}, 4, nil, false, api.ErrNone}, {[]int{6}, []int{7}, 4, nil, false, api.ErrNone},
	} {
		c, always, e := clause.Resolve(3, y.a, y.b, y.v)
		if !slices.Equal(c, y.want) || always != y.always || e != y.e {
			t.Errorf("Resolve(3, %v, %v, %d) = %v, %t, %d; want %v, %t, %d", y.a, y.b, y.v, c, always, e, y.want, y.always, y.e)
		}
	}
}

func TestResolveOfAllClauses(t *testing.T) {
	for vars := range 5 {
		for _, a := range allClauses(vars) {
			for _, b := range allClauses(vars) {
				for v := -2; v <= vars+2; v++ {
					resolves(t, vars, a, b, v)
				}
			}
			if t.Failed() {
				return
			}
		}
	}
}

func TestResolveOfDrawnClauses(t *testing.T) {
	rnd := rand.New(rand.NewSource(134))
	made, always := 0, 0
	for range 1500 {
		vars := max(1, drawnVars(rnd))
		percent := rnd.Intn(101)
		a, b := drawnClause(rnd, vars, percent), drawnClause(rnd, vars, percent)
		v := 1 + rnd.Intn(vars)
		with := func(c []int, l int) []int {
			c = slices.DeleteFunc(c, func(other int) bool { return other == 2*v || other == 2*v+1 })
			c = append(c, l)
			slices.Sort(c)
			return c
		}
		sign := rnd.Intn(2)
		a, b = with(a, 2*v+sign), with(b, 2*v+1-sign)
		if rnd.Intn(2) == 0 {
			// Without what would be always true.
			there := setOf(a)
			b = slices.DeleteFunc(b, func(l int) bool { return l != 2*v+1-sign && there[negation(l)] })
		}
		resolves(t, vars, a, b, v)
		resolves(t, vars, b, a, v)
		resolves(t, vars, a, a, v)
		resolves(t, vars, a, b, 1+rnd.Intn(vars))
		if t.Failed() {
			return
		}
		switch _, is, _ := clause.Resolve(vars, a, b, v); is {
		case true:
			always++
		case false:
			made++
		}
	}
	if made < 400 || always < 250 {
		t.Errorf("%d resolvents, and %d that are always true", made, always)
	}
}

// The greatest clauses that there are.
func TestResolveOfWholeClauses(t *testing.T) {
	a := whole(mostVars)
	for _, v := range []int{1, 2, 1999, 2000, 3999, 4000} {
		b := slices.Clone(a)
		b[v-1] = negation(b[v-1])
		want := slices.Delete(slices.Clone(a), v-1, v)
		if c, always, e := clause.Resolve(mostVars, a, b, v); !slices.Equal(c, want) || always || e != api.OK {
			t.Errorf("at %d: %s, %t, %d", v, short(c), always, e)
		}
		b[v%mostVars] = negation(b[v%mostVars])
		if c, always, e := clause.Resolve(mostVars, b, a, v); len(c) > 0 || !always || e != api.OK {
			t.Errorf("at %d: %s, %t, %d", v, short(c), always, e)
		}
	}
}
