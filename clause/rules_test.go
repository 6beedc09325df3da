package clause_test

import (
	"math"
	"math/rand"
	"slices"
	"sync"
	"testing"

	"spiritlevel/api"
	"spiritlevel/clause"
)

// P1: R1 to R7. That errors come in order, and alone, is tested in wrong_test.go.

// roomy returns the list with used memory behind its length.
func roomy[T any](list []T, behind ...T) []T {
	return append(slices.Clone(list), behind...)[:len(list)]
}

// all returns a copy of all the memory of a list.
func all[T any](list []T) []T { return slices.Clone(list[:cap(list)]) }

// callAll calls each function with the lists.
func callAll(vars int, a, b []int, values []bool, v int) {
	clause.Check(vars, a)
	clause.Make(vars, a)
	clause.True(a, values)
	clause.Implies(vars, a, b)
	clause.Resolve(vars, a, b, v)
}

func TestArgumentsAreOnlyRead(t *testing.T) {
	rnd := rand.New(rand.NewSource(139))
	plain := append(lists(), allClauses(3)...)
	for list := range allLists(literals(2), 4) {
		plain = append(plain, list)
	}
	for _, vars := range []int{3, 5, 4000, -1} {
		for _, list := range plain {
			a, b := roomy(list, 9, 2, 5), roomy(plain[rnd.Intn(len(plain))], 3, 9)
			values := roomy(drawnValues(rnd, max(0, vars)), x, o, x)
			beforeA, beforeB, beforeValues := all(a), all(b), all(values)
			for v := range 4 {
				callAll(vars, a, b, values, v)
				callAll(vars, b, a, values, v)
			}
			if !slices.Equal(all(a), beforeA) || !slices.Equal(all(b), beforeB) || !slices.Equal(all(values), beforeValues) {
				t.Fatalf("%v, %v became %v, %v", beforeA, beforeB, all(a), all(b))
			}
		}
	}
	// Resolvents of drawn clauses, with room for both.
	for range 300 {
		a, b := drawnClause(rnd, 30, 50), drawnClause(rnd, 30, 50)
		a, b = roomy(a, make([]int, 64)...), roomy(b, make([]int, 64)...)
		beforeA, beforeB := all(a), all(b)
		for v := range 31 {
			callAll(30, a, b, nil, v)
		}
		if !slices.Equal(all(a), beforeA) || !slices.Equal(all(b), beforeB) {
			t.Fatalf("%v, %v became %v, %v", beforeA, beforeB, all(a), all(b))
		}
	}
}

// What stands behind the length of a list does not count.
func TestMemoryBehindListsDoesNotMatter(t *testing.T) {
	for _, a := range allClauses(3) {
		for _, behind := range [][]int{{2, 3}, {8, 9}, {0, 0}, {7, 7}, {-1}} {
			long := roomy(a, behind...)
			checks(t, 3, long)
			makes(t, 3, long)
			for _, values := range allValues(3) {
				tells(t, long, roomy(values, x, x, x))
				tells(t, long, roomy(values, o, o, o))
			}
			for _, b := range allClauses(3) {
				implies(t, 3, long, b)
				implies(t, 3, b, long)
				for v := range 4 {
					resolves(t, 3, long, b, v)
					resolves(t, 3, b, long, v)
				}
			}
		}
	}
	if is, e := clause.True([]int{4}, make([]bool, 1, 2)); is || e != api.ErrBad {
		t.Errorf("with room for the second value it is %t, %d", is, e)
	}
	if is, e := clause.True([]int{3}, make([]bool, 4000, 4001)); !is || e != api.OK {
		t.Errorf("with room for a value too many it is %t, %d", is, e)
	}
}

// fill changes a list, and the memory behind it.
func fill(list []int) {
	list = list[:cap(list)]
	for i := range list {
		list[i] = -77
	}
}

func TestResultsShareNoMemoryWithArguments(t *testing.T) {
	for _, y := range []struct{ a, b, want []int }{
		{[]int{2}, []int{3, 4, 6}, []int{4, 6}}, {[]int{2, 4, 6}, []int{3}, []int{4, 6}}, {[]int{2, 4}, []int{3, 6}, []int{4, 6}}, {[]int{3, 6}, []int{2, 4}, []int{4, 6}}, {[]int{2, 4, 6}, []int{3, 4, 6}, []int{4, 6}},
	} {
		a, b := roomy(y.a, 9, 9, 9, 9), roomy(y.b, 9, 9, 9, 9)
		c, _, e := clause.Resolve(3, a, b, 1)
		if !slices.Equal(c, y.want) || e != api.OK {
			t.Errorf("Resolve(3, %v, %v, 1) = %v, %d", y.a, y.b, c, e)
		}
		fill(a)
		fill(b)
		if !slices.Equal(c, y.want) {
			t.Errorf("after the arguments were changed the resolvent is %v", c)
		}
		a, b = roomy(y.a, 9, 9, 9, 9), roomy(y.b, 9, 9, 9, 9)
		beforeA, beforeB := all(a), all(b)
		c, _, _ = clause.Resolve(3, a, b, 1)
		fill(c)
		if !slices.Equal(all(a), beforeA) || !slices.Equal(all(b), beforeB) {
			t.Errorf("after the resolvent was changed the arguments are %v and %v", all(a), all(b))
		}
	}
	for _, list := range [][]int{{2}, {2, 4, 7}, {7, 4, 2}, {7, 2, 7, 4}, {}} {
		l := roomy(list, 9, 9, 9)
		want, _, _ := wantedMake(3, list)
		c, _, _ := clause.Make(3, l)
		fill(l)
		if !slices.Equal(c, want) {
			t.Errorf("after the argument was changed the clause of %v is %v", list, c)
		}
		l = roomy(list, 9, 9, 9)
		before := all(l)
		c, _, _ = clause.Make(3, l)
		fill(c)
		if !slices.Equal(all(l), before) {
			t.Errorf("after the clause was changed the argument is %v; it was %v", all(l), before)
		}
	}
}

// Two results of the same call share no memory, either.
func TestResultsShareNoMemoryWithEachOther(t *testing.T) {
	list := []int{7, 2, 7, 4}
	first, _, _ := clause.Make(3, list)
	second, _, _ := clause.Make(3, list)
	fill(first)
	third, _, _ := clause.Make(3, list)
	if want := []int{2, 4, 7}; !slices.Equal(second, want) || !slices.Equal(third, want) {
		t.Errorf("after a clause was changed others are %v and %v", second, third)
	}
	first, _, _ = clause.Resolve(3, []int{2, 4}, []int{3, 6}, 1)
	second, _, _ = clause.Resolve(3, []int{2, 4}, []int{3, 6}, 1)
	fill(first)
	third, _, _ = clause.Resolve(3, []int{2, 4}, []int{3, 6}, 1)
	if want := []int{4, 6}; !slices.Equal(second, want) || !slices.Equal(third, want) {
		t.Errorf("after a resolvent was changed others are %v and %v", second, third)
	}
}

// Both clauses may be parts of one list, or the same one.
func TestArgumentsMayShareMemory(t *testing.T) {
	memory := []int{2, 4, 7, 3, 6, 8}
	before := slices.Clone(memory)
	resolves(t, 4, memory[:3], memory[3:], 1)
	resolves(t, 4, memory[3:5], memory[:2], 1)
	resolves(t, 4, memory[:3], memory[:3], 1)
	resolves(t, 4, memory[1:3], memory[4:], 3)
	implies(t, 4, memory[:2], memory[:3])
	implies(t, 4, memory[1:3], memory[:3])
	implies(t, 4, memory[:3], memory[:3])
	implies(t, 4, memory[:3], memory[:2])
	makes(t, 4, memory)
	if !slices.Equal(memory, before) {
		t.Errorf("%v became %v", before, memory)
	}
}

func TestNilAndEmptyListsAreEqual(t *testing.T) {
	for _, a := range [][]int{nil, {}} {
		if c, always, e := clause.Make(3, a); len(c) > 0 || always || e != api.OK {
			t.Errorf("Make(3, %#v) = %v, %t, %d", a, c, always, e)
		}
		for _, values := range [][]bool{nil, {}, {o}} {
			if is, e := clause.True(a, values); is || e != api.OK {
				t.Errorf("True(%#v, %#v) = %t, %d", a, values, is, e)
			}
		}
		for _, vars := range []int{0, 3} {
			if e := clause.Check(vars, a); e != api.OK {
				t.Errorf("Check(%d, %#v) = %d", vars, a, e)
			}
			for _, b := range [][]int{nil, {}} {
				if is, e := clause.Implies(vars, a, b); !is || e != api.OK {
					t.Errorf("Implies(%d, %#v, %#v) = %t, %d", vars, a, b, is, e)
				}
				if c, always, e := clause.Resolve(vars, a, b, 1); c != nil || always || e != api.ErrNone {
					t.Errorf("Resolve(%d, %#v, %#v, 1) = %v, %t, %d", vars, a, b, c, always, e)
				}
			}
		}
		if is, e := clause.Implies(3, a, []int{2}); !is || e != api.OK {
			t.Errorf("Implies(3, %#v, [2]) = %t, %d", a, is, e)
		}
		if is, e := clause.Implies(3, []int{2}, a); is || e != api.OK {
			t.Errorf("Implies(3, [2], %#v) = %t, %d", a, is, e)
		}
	}
	for _, values := range [][]bool{nil, {}} {
		if is, e := clause.True([]int{2}, values); is || e != api.ErrBad {
			t.Errorf("True([2], %#v) = %t, %d", values, is, e)
		}
	}
}

// What is always true has no clause.
func TestThereIsNoClauseOfWhatIsAlwaysTrue(t *testing.T) {
	for _, list := range [][]int{{2, 3}, {3, 2}, {4, 2, 7, 3}, {2, 4, 6, 7}, {6, 6, 7}} {
		if c, always, e := clause.Make(3, list); c != nil || !always || e != api.OK {
			t.Errorf("Make(3, %v) = %#v, %t, %d", list, c, always, e)
		}
	}
	if c, always, e := clause.Resolve(3, []int{2, 4, 6}, []int{3, 5, 6}, 1); c != nil || !always || e != api.OK {
		t.Errorf("Resolve = %#v, %t, %d", c, always, e)
	}
}

// Calls at the same time have results of their own.
func TestNothingIsKept(t *testing.T) {
	var group sync.WaitGroup
	clauses := allClauses(3)
	for i, a := range clauses {
		group.Go(func() {
			for j, b := range clauses {
				implies(t, 3, a, b)
				for v := range 5 {
					resolves(t, 3, a, b, v)
				}
				list := append(slices.Clone(b), a...)
				makes(t, 3, list)
				c, _, _ := clause.Make(3, list)
				fill(c)
				checks(t, 3, list)
				tells(t, b, []bool{i%2 == 0, j%2 == 0, (i+j)%3 == 0})
				callAll(-1, list, nil, nil, i)
			}
		})
	}
	group.Wait()
}

// Any numbers, and lists of any lengths.
func TestNothingPanics(t *testing.T) {
	numbers := []int{-1, 0, 1, 2, 3, 4, 5, 6, 7, 8, 9, 3999, 4000, 4001, 7999, 8000, 8001, 8002, -2, -3, -8000, math.MinInt32, math.MaxInt32, math.MinInt, math.MinInt + 1, math.MinInt + 2, math.MinInt / 2, math.MaxInt / 2, math.MaxInt - 1, math.MaxInt}
	rnd := rand.New(rand.NewSource(140))
	pick := func() int {
		if rnd.Intn(2) == 0 {
			return numbers[rnd.Intn(len(numbers))]
		}
		return rnd.Intn(12)
	}
	list := func() []int {
		var l []int
		for range rnd.Intn(5) {
			l = append(l, pick())
		}
		if rnd.Intn(2) == 0 {
			slices.Sort(l)
		}
		return l
	}
	for range 50000 {
		a, b, values := list(), list(), make([]bool, rnd.Intn(6))
		vars, v := pick(), pick()
		checks(t, vars, a)
		makes(t, vars, a)
		tells(t, a, values)
		implies(t, vars, a, b)
		resolves(t, vars, a, b, v)
		if t.Failed() {
			return
		}
	}
}
