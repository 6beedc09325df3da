package unit_test

import (
	"math/rand"
	"slices"
	"testing"

	"spiritlevel/api"
	"spiritlevel/assign"
	"spiritlevel/clause"
	"spiritlevel/unit"
)

// P15.3: what the functions say agrees.

// instance is what unit propagation is asked about.
type instance struct {
	a api.Assign
	l [][]int
}

// smallInstances are drawn ones of few variables; about half of them end with a clause that is false.
func smallInstances(rnd *rand.Rand, count int) []instance {
	var list []instance
	for i := range count {
		vars := 1 + rnd.Intn(8)
		a := drawnAssign(rnd, vars, rnd.Intn(60), rnd.Intn(101))
		l := drawnClauses(rnd, vars, rnd.Intn(2*vars+2), 1+i%2, 3)
		list = append(list, instance{a, l})
	}
	return list
}

// bothKinds tests that of some instances not too few end with, and without, a clause that is false.
func bothKinds(t *testing.T, list []instance) {
	t.Helper()
	ended := 0
	for _, y := range list {
		if _, at := run(t, y.a, y.l); at >= 0 {
			ended++
		}
	}
	if ended < len(list)/5 || ended > len(list)*4/5 {
		t.Errorf("of %d instances %d ended with a clause that is false", len(list), ended)
	}
}

func sorted(list []int) []int {
	list = slices.Clone(list)
	slices.Sort(list)
	return list
}

// agree tests that two lists of clauses end both with a false one, or with the same literals.
func agree(t *testing.T, a api.Assign, l, m [][]int) {
	t.Helper()
	b, i := run(t, a, l)
	c, j := run(t, a, m)
	if (i < 0) != (j < 0) || i < 0 && !slices.Equal(sorted(b.Trail), sorted(c.Trail)) {
		t.Fatalf("under %s the clauses %s give %s, %d, and %s give %s, %d", short(a), short(l), short(b), i, short(m), short(c), j)
	}
}

// orders calls do with all orders of a list.
func orders(l [][]int, do func([][]int)) {
	var from func(int)
	from = func(at int) {
		if at == len(l) {
			do(slices.Clone(l))
			return
		}
		for i := at; i < len(l); i++ {
			l[at], l[i] = l[i], l[at]
			from(at + 1)
			l[at], l[i] = l[i], l[at]
		}
	}
	from(0)
}

func TestTheOrderOfClausesDoesNotMatter(t *testing.T) {
	rnd := rand.New(rand.NewSource(157))
	small := smallInstances(rnd, 400)
	bothKinds(t, small)
	for _, y := range small {
		if len(y.l) <= 5 {
			orders(slices.Clone(y.l), func(m [][]int) { agree(t, y.a, y.l, m) })
			continue
		}
		for range 20 {
			m := slices.Clone(y.l)
			rnd.Shuffle(len(m), func(i, j int) { m[i], m[j] = m[j], m[i] })
			agree(t, y.a, y.l, m)
		}
	}
	for range 50 {
		l := hidden(rnd, 200, 500, 4)
		if rnd.Intn(2) == 0 {
			l = append(l, drawnClauses(rnd, 200, 3, 2, 4)...)
		}
		for range 5 {
			m := slices.Clone(l)
			rnd.Shuffle(len(m), func(i, j int) { m[i], m[j] = m[j], m[i] })
			agree(t, api.Assign{Vars: 200}, l, m)
		}
	}
}

// A clause that is there more than once is as one.
func TestClausesTwiceAreAsOnce(t *testing.T) {
	rnd := rand.New(rand.NewSource(158))
	for _, y := range smallInstances(rnd, 1000) {
		agree(t, y.a, y.l, slices.Concat(y.l, y.l))
		b, i := run(t, y.a, y.l)
		c, j := run(t, y.a, slices.Concat(y.l, y.l))
		if !isSame(b, c) || i != j {
			t.Fatalf("of %v and %v it is %v, %d; with each clause twice %v, %d", y.a, y.l, b, i, c, j)
		}
	}
}

// allValues calls do with all values of so many variables.
func allValues(vars int, do func([]bool)) {
	for n := range 1 << vars {
		values := make([]bool, vars)
		for v := range vars {
			values[v] = n>>v&1 == 1
		}
		do(values)
	}
}

func areTrue(t *testing.T, list []int, values []bool) bool {
	t.Helper()
	for _, l := range list {
		is, e := clause.True([]int{l}, values)
		if e != api.OK {
			t.Fatalf("%d: error %d", l, e)
		}
		if !is {
			return false
		}
	}
	return true
}

func areClausesTrue(t *testing.T, l [][]int, values []bool) bool {
	t.Helper()
	for _, c := range l {
		is, e := clause.True(c, values)
		if e != api.OK {
			t.Fatalf("%v: error %d", c, e)
		}
		if !is {
			return false
		}
	}
	return true
}

// Under all values under which the literals before and all clauses are true, all literals behind are; and there are none if a clause is false.
func TestWhatIsImpliedFollows(t *testing.T) {
	list := smallInstances(rand.New(rand.NewSource(159)), 2000)
	bothKinds(t, list)
	checked := 0
	for _, y := range list {
		b, at := run(t, y.a, y.l)
		allValues(y.a.Vars, func(values []bool) {
			if !areTrue(t, y.a.Trail, values) || !areClausesTrue(t, y.l, values) {
				return
			}
			if at >= 0 || !areTrue(t, b.Trail, values) {
				t.Fatalf("of %v and %v it is %v, %d, but all is true under %v", y.a, y.l, b, at, values)
			}
			checked += len(b.Trail) - len(y.a.Trail)
		})
	}
	if checked < 1000 {
		t.Errorf("%d literals were looked at", checked)
	}
}

func TestNothingIsTakenAwayAndLevelsStay(t *testing.T) {
	rnd := rand.New(rand.NewSource(160))
	for _, y := range smallInstances(rnd, 2000) {
		b, _ := run(t, y.a, y.l)
		if e := assign.Check(b); e != api.OK {
			t.Fatalf("of %v and %v it is %v, of which Check says %d", y.a, y.l, b, e)
		}
		size := len(y.a.Trail)
		if b.Vars != y.a.Vars || len(b.Trail) < size || !slices.Equal(b.Trail[:size], y.a.Trail) || !slices.Equal(b.Starts, y.a.Starts) {
			t.Fatalf("of %v and %v it is %v", y.a, y.l, b)
		}
		for _, l := range b.Trail[size:] {
			if level, e := assign.Level(b, l); level != len(y.a.Starts) || e != api.OK {
				t.Fatalf("the level of %d in %v is %d, %d", l, b, level, e)
			}
		}
	}
}

// Each literal is that of the first clause that is unit when it comes, and none is false by then.
func TestEachLiteralIsThatOfTheFirstUnitClause(t *testing.T) {
	rnd := rand.New(rand.NewSource(161))
	for _, y := range smallInstances(rnd, 2000) {
		b, at := run(t, y.a, y.l)
		for size := len(y.a.Trail); size <= len(b.Trail); size++ {
			now := api.Assign{Vars: b.Vars, Trail: b.Trail[:size], Starts: b.Starts}
			falseOne, implied := -1, 0
			for i, c := range y.l {
				s, lit := state(t, now, c)
				if s == isFalse && falseOne < 0 {
					falseOne = i
				}
				if s == isUnit && implied == 0 {
					implied = lit
				}
			}
			isLast := size == len(b.Trail)
			if isLast && falseOne != at || isLast && at < 0 && implied != 0 || !isLast && (falseOne >= 0 || implied != b.Trail[size]) {
				t.Fatalf("of %v and %v it is %v, %d, but under %v the clause %d is false, and %d the literal of the first one that is unit", y.a, y.l, b, at, now, falseOne, implied)
			}
		}
	}
}

func TestBehindPropagationNoneIsUnit(t *testing.T) {
	rnd := rand.New(rand.NewSource(162))
	list := smallInstances(rnd, 2000)
	for range 30 {
		list = append(list, instance{api.Assign{Vars: 200}, hidden(rnd, 200, 600, 4)})
	}
	for _, y := range list {
		b, at := run(t, y.a, y.l)
		if at >= 0 {
			if s, lit := state(t, b, y.l[at]); s != isFalse || lit != 0 {
				t.Fatalf("of %s and %s it is %s, %d, and this clause is %d, %d", short(y.a), short(y.l), short(b), at, s, lit)
			}
			continue
		}
		for _, c := range y.l {
			if s, _ := state(t, b, c); s != isTrue && s != isOpen {
				t.Fatalf("behind propagation, under %s, the clause %v is %d", short(b), c, s)
			}
		}
	}
}

// Also where it ended with a clause that is false: this one is false again, and the first one that is.
func TestPropagatingAgainChangesNothing(t *testing.T) {
	rnd := rand.New(rand.NewSource(163))
	for _, y := range smallInstances(rnd, 2000) {
		b, at := run(t, y.a, y.l)
		if c, again := run(t, b, y.l); !isSame(b, c) || again != at {
			t.Fatalf("of %v and %v it is %v, %d, and then %v, %d", y.a, y.l, b, at, c, again)
		}
	}
}

// noLess tests that what is implied with less is with more, unless a clause is false.
func noLess(t *testing.T, less, more instance) {
	t.Helper()
	b, at := run(t, less.a, less.l)
	c, end := run(t, more.a, more.l)
	if end >= 0 {
		return
	}
	if at >= 0 {
		t.Fatalf("of %v and %v a clause is false, but of %v and %v none", less.a, less.l, more.a, more.l)
	}
	for _, l := range b.Trail {
		if !slices.Contains(c.Trail, l) {
			t.Fatalf("of %v and %v it is %v; of %v and %v %v", less.a, less.l, b, more.a, more.l, c)
		}
	}
}

func TestWithMoreNoLessIsImplied(t *testing.T) {
	rnd := rand.New(rand.NewSource(164))
	for _, y := range smallInstances(rnd, 3000) {
		l := slices.Clone(y.l)
		for range 1 + rnd.Intn(3) {
			l = slices.Insert(l, rnd.Intn(len(l)+1), drawnClause(rnd, y.a.Vars, 1+rnd.Intn(3)))
		}
		noLess(t, y, instance{y.a, l})
		a := y.a
		for _, v := range rnd.Perm(a.Vars) {
			lit := 2*v + 2 + rnd.Intn(2)
			value, e := assign.Value(a, lit)
			if e != api.OK || value != api.VaNone || rnd.Intn(2) == 0 {
				continue
			}
			if rnd.Intn(2) == 0 {
				a, _ = assign.Imply(a, lit)
			} else {
				a, _ = assign.Decide(a, lit)
			}
		}
		noLess(t, y, instance{a, y.l})
		noLess(t, y, instance{a, l})
	}
}

// What it says depends on which literals are true, not on their order, nor on their levels.
func TestOrderAndLevelsOfLiteralsDoNotMatter(t *testing.T) {
	rnd := rand.New(rand.NewSource(165))
	for _, y := range smallInstances(rnd, 2000) {
		a := api.Assign{Vars: y.a.Vars, Trail: slices.Clone(y.a.Trail)}
		rnd.Shuffle(len(a.Trail), func(i, j int) { a.Trail[i], a.Trail[j] = a.Trail[j], a.Trail[i] })
		b, i := run(t, y.a, y.l)
		c, j := run(t, a, y.l)
		if size := len(a.Trail); i != j || !slices.Equal(b.Trail[size:], c.Trail[size:]) {
			t.Fatalf("of %v, %v and %v it is %v, %d, and %v, %d", y.a, a, y.l, b, i, c, j)
		}
		for _, cl := range y.l {
			s, lit := state(t, y.a, cl)
			if again, other := state(t, a, cl); s != again || lit != other {
				t.Fatalf("of %v and %v the states of %v are %d, %d and %d, %d", y.a, a, cl, s, lit, again, other)
			}
		}
	}
}

// More variables change nothing but what are literals.
func TestMoreVariablesChangeNothing(t *testing.T) {
	rnd := rand.New(rand.NewSource(166))
	for _, y := range smallInstances(rnd, 300) {
		b, at := run(t, y.a, y.l)
		for _, vars := range []int{y.a.Vars + 1, 100, 3999, 4000} {
			y.a.Vars, b.Vars = vars, vars
			if c, i := run(t, y.a, y.l); !isSame(b, c) || at != i {
				t.Fatalf("with %d variables it is %v, %d; want %v, %d", vars, c, i, b, at)
			}
			wrong := append(slices.Clone(y.l), []int{2*vars + 2})
			if c, i, e := unit.Run(y.a, wrong); c.Vars != 0 || i != 0 || e != api.ErrBad {
				t.Fatalf("with %d variables of %v it is %v, %d, %d", vars, wrong, c, i, e)
			}
		}
	}
}
