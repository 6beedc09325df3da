package clause_test

import (
	"math/rand"
	"slices"
	"testing"

	"spiritlevel/api"
	"spiritlevel/clause"
)

// P13.4: what the functions say agrees, told by all values where there are few variables.

func trueOf(t *testing.T, c []int, values []bool) bool {
	t.Helper()
	is, e := clause.True(c, values)
	if e != api.OK {
		t.Fatalf("True(%s, %s): error %d", short(c), short(values), e)
	}
	return is
}

func impliesOf(t *testing.T, vars int, a, b []int) bool {
	t.Helper()
	is, e := clause.Implies(vars, a, b)
	if e != api.OK {
		t.Fatalf("Implies(%d, %s, %s): error %d", vars, short(a), short(b), e)
	}
	return is
}

// makeOf returns the clause of literals, and tests that it is one.
func makeOf(t *testing.T, vars int, l []int) ([]int, bool) {
	t.Helper()
	c, always, e := clause.Make(vars, l)
	if e != api.OK || always && len(c) > 0 {
		t.Fatalf("Make(%d, %s) = %s, %t, %d", vars, short(l), short(c), always, e)
	}
	if e := clause.Check(vars, c); e != api.OK {
		t.Fatalf("Make(%d, %s) = %s, of which Check says %d", vars, short(l), short(c), e)
	}
	return c, always
}

func TestAClauseImpliesWhatIsTrueWithIt(t *testing.T) {
	for vars := range 5 {
		for _, a := range allClauses(vars) {
			for _, b := range allClauses(vars) {
				follows := true
				for _, values := range allValues(vars) {
					follows = follows && (!trueOf(t, a, values) || trueOf(t, b, values))
				}
				if is := impliesOf(t, vars, a, b); is != follows {
					t.Fatalf("Implies(%d, %v, %v) = %t; the second one is true where the first one is: %t", vars, a, b, is, follows)
				}
			}
		}
	}
}

// Of many variables not all values can be tried, but those that tell it.
func TestADrawnClauseImpliesWhatIsTrueWithIt(t *testing.T) {
	rnd := rand.New(rand.NewSource(135))
	counts := map[bool]int{}
	for range 1000 {
		vars := drawnVars(rnd)
		b := drawnClause(rnd, vars, rnd.Intn(101))
		a := slices.DeleteFunc(slices.Clone(b), func(int) bool { return rnd.Intn(2) == 0 })
		if len(a) > 0 && rnd.Intn(2) == 0 {
			at := rnd.Intn(len(a))
			a[at] = negation(a[at])
		}
		is := impliesOf(t, vars, a, b)
		counts[is]++
		for _, at := range rnd.Perm(len(a))[:min(20, len(a))] {
			l := a[at]
			// Only this literal of the first one is true, and no other one of both if that can be.
			values := make([]bool, vars)
			for _, other := range slices.Concat(a, b) {
				values[other/2-1] = other%2 == 1
			}
			values[l/2-1] = l%2 == 0
			if !trueOf(t, a, values) || is && !trueOf(t, b, values) {
				t.Fatalf("Implies(%d, %s, %s) = %t; not under %s", vars, short(a), short(b), is, short(values))
			}
		}
		for range 5 {
			if values := drawnValues(rnd, vars); is && trueOf(t, a, values) && !trueOf(t, b, values) {
				t.Fatalf("Implies(%d, %s, %s) = %t; not under %s", vars, short(a), short(b), is, short(values))
			}
		}
	}
	if counts[true] < 200 || counts[false] < 200 {
		t.Errorf("a clause implies another one, or not: %v", counts)
	}
}

func TestImplyingIsAnOrder(t *testing.T) {
	const vars = 3
	all := allClauses(vars)
	for _, a := range all {
		if !impliesOf(t, vars, a, a) || !impliesOf(t, vars, nil, a) || impliesOf(t, vars, a, nil) != (len(a) == 0) {
			t.Errorf("of %v and the empty clause: wrong", a)
		}
		for _, b := range all {
			if impliesOf(t, vars, a, b) && impliesOf(t, vars, b, a) && !slices.Equal(a, b) {
				t.Errorf("%v and %v imply each other", a, b)
			}
			for _, c := range all {
				if impliesOf(t, vars, a, b) && impliesOf(t, vars, b, c) && !impliesOf(t, vars, a, c) {
					t.Errorf("%v implies %v, and this %v", a, b, c)
				}
			}
		}
	}
}

func TestAResolventIsTrueWhereBothAre(t *testing.T) {
	counts := map[bool]int{}
	for vars := range 5 {
		for _, a := range allClauses(vars) {
			for _, b := range allClauses(vars) {
				for v := 1; v <= vars; v++ {
					c, always, e := clause.Resolve(vars, a, b, v)
					if e != api.OK {
						continue
					}
					counts[always]++
					if f := clause.Check(vars, c); f != api.OK || always && len(c) > 0 {
						t.Fatalf("Resolve(%d, %v, %v, %d) = %v, %t, of which Check says %d", vars, a, b, v, c, always, f)
					}
					for _, values := range allValues(vars) {
						if trueOf(t, a, values) && trueOf(t, b, values) && !always && !trueOf(t, c, values) {
							t.Fatalf("Resolve(%d, %v, %v, %d) = %v, which is false under %v", vars, a, b, v, c, values)
						}
					}
				}
			}
		}
	}
	if counts[true] < 500 || counts[false] < 500 {
		t.Errorf("resolvents are always true, or not: %v", counts)
	}
}

// A resolvent says no more than the clauses do: where it is true the variable can have a value with which both are, and where it is false it can not.
func TestAResolventIsTrueJustWhereTheVariableCanBeChosen(t *testing.T) {
	const vars = 4
	for _, a := range allClauses(vars) {
		for _, b := range allClauses(vars) {
			for v := 1; v <= vars; v++ {
				c, always, e := clause.Resolve(vars, a, b, v)
				if e != api.OK {
					continue
				}
				for _, values := range allValues(vars) {
					other := slices.Clone(values)
					other[v-1] = !other[v-1]
					can := trueOf(t, a, values) && trueOf(t, b, values) || trueOf(t, a, other) && trueOf(t, b, other)
					if is := always || trueOf(t, c, values); is != can {
						t.Fatalf("Resolve(%d, %v, %v, %d) = %v, %t, which is %t under %v", vars, a, b, v, c, always, is, values)
					}
				}
			}
		}
	}
}

func TestTheOrderOfClausesDoesNotMatterToTheirResolvent(t *testing.T) {
	const vars = 4
	for _, a := range allClauses(vars) {
		for _, b := range allClauses(vars) {
			for v := range vars + 2 {
				c, always, e := clause.Resolve(vars, a, b, v)
				d, other, f := clause.Resolve(vars, b, a, v)
				if !slices.Equal(c, d) || always != other || e != f {
					t.Fatalf("Resolve(%d, %v, %v, %d) = %v, %t, %d; the other way round %v, %t, %d", vars, a, b, v, c, always, e, d, other, f)
				}
			}
		}
	}
}

func TestTheClauseOfLiteralsIsTrueWhereOneOfThemIs(t *testing.T) {
	for vars := range 4 {
		for list := range allLists(literals(vars), 5) {
			c, always := makeOf(t, vars, list)
			for _, values := range allValues(vars) {
				if want := isTrue(list, values); !always && trueOf(t, c, values) != want || always && !want {
					t.Fatalf("Make(%d, %v) = %v, %t; one of the literals is true under %v: %t", vars, list, c, always, values, want)
				}
			}
		}
	}
}

// permuted returns all orders of a list.
func permuted(list []int) [][]int {
	if len(list) == 0 {
		return [][]int{nil}
	}
	var all [][]int
	for i, l := range list {
		for _, rest := range permuted(slices.Delete(slices.Clone(list), i, i+1)) {
			all = append(all, append([]int{l}, rest...))
		}
	}
	return all
}

func TestTheOrderOfLiteralsDoesNotMatter(t *testing.T) {
	for vars := range 3 {
		for list := range allLists(literals(vars), 5) {
			want, wantAlways := makeOf(t, vars, list)
			for _, other := range permuted(list) {
				// Nor does it matter how often one is there.
				for _, more := range [][]int{other, append(slices.Clone(other), list...), slices.Repeat(other, 3)} {
					if c, always := makeOf(t, vars, more); !slices.Equal(c, want) || always != wantAlways {
						t.Fatalf("Make(%d, %v) = %v, %t; of %v it is %v, %t", vars, more, c, always, list, want, wantAlways)
					}
				}
			}
		}
	}
}

func TestTheOrderOfManyLiteralsDoesNotMatter(t *testing.T) {
	rnd := rand.New(rand.NewSource(136))
	for round := range 300 {
		vars := max(1, drawnVars(rnd))
		c := drawnClause(rnd, vars, 1+rnd.Intn(100))
		list := slices.Clone(c)
		for range rnd.Intn(100) {
			if len(c) > 0 {
				list = append(list, c[rnd.Intn(len(c))])
			}
		}
		if round%3 == 0 && len(c) > 0 {
			list = append(list, negation(c[rnd.Intn(len(c))]))
			c = nil
		}
		wantAlways := c == nil && len(list) > 0
		for range 5 {
			rnd.Shuffle(len(list), func(i, j int) { list[i], list[j] = list[j], list[i] })
			if d, always := makeOf(t, vars, list); !slices.Equal(d, c) || always != wantAlways {
				t.Fatalf("Make(%d, %s) = %s, %t; want %s, %t", vars, short(list), short(d), always, short(c), wantAlways)
			}
		}
	}
}

// A list is a clause just if it is the clause of itself.
func TestTheClauseOfAClauseIsItself(t *testing.T) {
	for vars := range 4 {
		for list := range allLists(literals(vars), 5) {
			c, always := makeOf(t, vars, list)
			is := clause.Check(vars, list) == api.OK
			if own := !always && slices.Equal(c, list); own != is {
				t.Fatalf("Make(%d, %v) = %v, %t; it is a clause: %t", vars, list, c, always, is)
			}
			if again, other := makeOf(t, vars, c); !slices.Equal(again, c) || other {
				t.Fatalf("Make(%d, %v) = %v, %t", vars, c, again, other)
			}
		}
	}
	rnd := rand.New(rand.NewSource(137))
	for range 500 {
		vars := drawnVars(rnd)
		c := drawnClause(rnd, vars, rnd.Intn(101))
		if d, always := makeOf(t, vars, c); !slices.Equal(d, c) || always {
			t.Fatalf("Make(%d, %s) = %s, %t", vars, short(c), short(d), always)
		}
	}
}

func TestOnlyTheEmptyClauseIsNeverTrue(t *testing.T) {
	for vars := range 6 {
		for _, c := range allClauses(vars) {
			sometimes, always := false, true
			for _, values := range allValues(vars) {
				is := trueOf(t, c, values)
				sometimes, always = sometimes || is, always && is
			}
			if sometimes != (len(c) > 0) || always {
				t.Fatalf("%v is sometimes true: %t; always: %t", c, sometimes, always)
			}
		}
	}
	rnd := rand.New(rand.NewSource(138))
	for range 500 {
		vars := drawnVars(rnd)
		c := drawnClause(rnd, vars, rnd.Intn(101))
		values := drawnValues(rnd, vars)
		for _, l := range c {
			values[l/2-1] = l%2 == 1
		}
		if trueOf(t, c, values) || trueOf(t, nil, values) {
			t.Fatalf("%s is true under %s", short(c), short(values))
		}
		for _, at := range rnd.Perm(len(c))[:min(20, len(c))] {
			l := c[at]
			values[l/2-1] = l%2 == 0
			if !trueOf(t, c, values) {
				t.Fatalf("%s is false under %s", short(c), short(values))
			}
			values[l/2-1] = l%2 == 1
		}
	}
}

// More variables change nothing but what are literals.
func TestMoreVariablesChangeNothing(t *testing.T) {
	for _, a := range allClauses(3) {
		for _, vars := range []int{3, 4, 10, 3999, 4000} {
			if e := clause.Check(vars, a); e != api.OK {
				t.Fatalf("Check(%d, %v) = %d", vars, a, e)
			}
			for _, b := range allClauses(3) {
				implies(t, vars, a, b)
				resolves(t, vars, a, b, 2)
			}
			makes(t, vars, append(slices.Clone(a), 7, 3, 2))
		}
	}
}
