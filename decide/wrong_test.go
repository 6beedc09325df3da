package decide_test

import (
	"math"
	"slices"
	"testing"

	"spiritlevel/api"
	"spiritlevel/assign"
	"spiritlevel/decide"
)

// What is not valid, in the order of the errors.

// wrongNumbers are no variables.
func wrongNumbers() []int {
	return []int{0, -1, -2, -4000, -4001, 4001, 4002, 8000, 8001, 20000, math.MinInt32, math.MaxInt32, math.MinInt, math.MinInt + 1, math.MinInt / 2, math.MaxInt / 2, math.MaxInt - 1, math.MaxInt}
}

// wrongHeaps are none, for one reason each.
func wrongHeaps() [][]int {
	list := [][]int{{1, 1}, {3, 3}, {1, 2, 2}, {1, 2, 1}, {1, 2, 3, 4, 5, 3}, {4000, 4000}, {2, 1}, {2, 3, 1}, {3, 2, 1}, {1, 3, 4, 2}, {1, 3, 4, 5, 2}, {1, 3, 4, 5, 6, 2}, {1, 3, 4, 5, 6, 7, 2}, {4000, 3999}, {2, 3, 4, 5, 6, 7, 8, 1}}
	for _, n := range wrongNumbers() {
		list = append(list, []int{n}, []int{n, 1}, []int{1, n}, []int{1, n, 2}, []int{1, 2, n}, []int{1, 2, 3, 4, n})
	}
	return list
}

// wrongAssigns are not valid.
func wrongAssigns() []api.Assign {
	var list []api.Assign
	for _, vars := range []int{-1, -2, -4000, 4001, 4002, 8000, math.MinInt32, math.MaxInt32, math.MinInt, math.MinInt + 1, math.MaxInt / 2, math.MaxInt - 1, math.MaxInt} {
		list = append(list, api.Assign{Vars: vars}, api.Assign{Vars: vars, Trail: []int{2}}, api.Assign{Vars: vars, Trail: []int{2, 5}, Starts: []int{1}})
	}
	for _, n := range []int{-1, -2, -3, 0, 1, 12, 13, 8000, 8001, 8002, math.MinInt32, math.MaxInt32, math.MinInt, math.MinInt + 1, math.MaxInt - 1, math.MaxInt} {
		list = append(list, api.Assign{Vars: 5, Trail: []int{n}}, api.Assign{Vars: 5, Trail: []int{2, n}, Starts: []int{0}})
	}
	for _, trail := range [][]int{{2, 2}, {2, 3}, {3, 2}, {3, 3}, {2, 4, 2}, {4, 2, 7, 5}} {
		list = append(list, api.Assign{Vars: 5, Trail: trail}, api.Assign{Vars: 5, Trail: trail, Starts: []int{0, 1}})
	}
	for _, starts := range [][]int{{0, 0}, {1, 0}, {2}, {0, 2}, {-1}, {-1, 0}, {math.MinInt}, {0, math.MaxInt}} {
		list = append(list, api.Assign{Vars: 5, Trail: []int{4, 7}, Starts: starts})
	}
	return append(list, api.Assign{Vars: 5, Starts: []int{0}}, api.Assign{Trail: []int{2}})
}

func failsPush(t *testing.T, h []int, v int, want api.Errno) {
	t.Helper()
	if more, e := decide.Push(h, v); more != nil || e != want {
		t.Errorf("Push(%s, %d) = %s, %d; want error %d", short(h), v, short(more), e, want)
	}
}

func failsPop(t *testing.T, h []int, want api.Errno) {
	t.Helper()
	if v, rest, e := decide.Pop(h); v != 0 || rest != nil || e != want {
		t.Errorf("Pop(%s) = %d, %s, %d; want error %d", short(h), v, short(rest), e, want)
	}
}

func failsNext(t *testing.T, h []int, a api.Assign, want api.Errno) {
	t.Helper()
	if v, rest, e := decide.Next(h, a); v != 0 || rest != nil || e != want {
		t.Errorf("Next(%s, %s) = %d, %s, %d; want error %d", short(h), short(a), v, short(rest), e, want)
	}
}

// A list that is no heap comes first, whatever is asked of it.
func TestTheHeapComesFirst(t *testing.T) {
	assigns := append(wrongAssigns(), api.Assign{}, api.Assign{Vars: 5}, without(5), without(mostVars), api.Assign{Vars: mostVars})
	for _, h := range wrongHeaps() {
		if e := decide.Check(h); e != api.ErrBad {
			t.Errorf("Check(%v) = %d", h, e)
		}
		for _, v := range append(wrongNumbers(), 1, 2, 3, 5, 3999, 4000) {
			failsPush(t, h, v, api.ErrBad)
		}
		failsPop(t, h, api.ErrBad)
		for _, a := range assigns {
			failsNext(t, h, a, api.ErrBad)
		}
	}
}

// What is no variable is not pushed, on whatever heap.
func TestPushingWhatIsNoVariable(t *testing.T) {
	for _, h := range [][]int{nil, {1}, {4000}, {1, 3, 8, 5}, upTo(mostVars)} {
		for _, n := range wrongNumbers() {
			failsPush(t, h, n, api.ErrArg)
		}
	}
}

func TestPushingWhatIsThere(t *testing.T) {
	for _, h := range [][]int{{1}, {4000}, {1, 3, 8, 5}, {3998, 4000, 3999}, upTo(50)} {
		for _, v := range h {
			failsPush(t, h, v, api.ErrFull)
		}
	}
	all := upTo(mostVars)
	for _, v := range []int{1, 2, 63, 64, 2000, 3999, 4000} {
		failsPush(t, all, v, api.ErrFull)
	}
	// Each one but one.
	for _, v := range []int{1, 2, 63, 64, 2000, 3999, 4000} {
		h := slices.Delete(upTo(mostVars), v-1, v)
		failsPush(t, h, v%mostVars+1, api.ErrFull)
		if more := push(t, h, v); len(more) != mostVars || decide.Check(more) != api.OK {
			t.Errorf("with %d pushed at the end it is %s", v, short(more))
		}
	}
}

func TestNothingIsThereToPop(t *testing.T) {
	failsPop(t, nil, api.ErrNone)
	failsPop(t, []int{}, api.ErrNone)
	_, rest := pop(t, []int{7})
	failsPop(t, rest, api.ErrNone)
}

// An assignment that is not valid comes next, also where there is no variable.
func TestTheAssignmentComesNext(t *testing.T) {
	for _, a := range wrongAssigns() {
		want := assign.Check(a)
		if want != api.ErrBad {
			t.Errorf("Check(%v) = %d", a, want)
		}
		for _, h := range [][]int{nil, {}, {1}, {5}, {4000}, {1, 3, 8, 5}, upTo(mostVars)} {
			failsNext(t, h, a, want)
		}
	}
}

// All have a value, are greater than Vars, or there are none.
func TestNoneIsNext(t *testing.T) {
	h := []int{1, 3, 8, 5}
	for _, a := range []api.Assign{{}, without(8), without(9), without(mostVars), without(3), without(7), {Vars: 9, Trail: []int{3, 6, 17, 10}, Starts: []int{0, 1, 2, 3}}, without(9, 2, 4, 6, 7, 9), without(3, 2), without(7, 2, 4, 6, 7)} {
		failsNext(t, h, a, api.ErrNone)
		failsNext(t, nil, a, api.ErrNone)
		failsNext(t, []int{}, a, api.ErrNone)
	}
	for vars := range 12 {
		failsNext(t, []int{vars + 1}, api.Assign{Vars: vars}, api.ErrNone)
		failsNext(t, []int{vars + 1, vars + 2}, without(vars), api.ErrNone)
		failsNext(t, []int{vars + 1}, without(vars+1), api.ErrNone)
		failsNext(t, []int{mostVars}, api.Assign{Vars: vars}, api.ErrNone)
	}
	failsNext(t, []int{mostVars}, api.Assign{Vars: mostVars - 1}, api.ErrNone)
	failsNext(t, []int{mostVars}, without(mostVars), api.ErrNone)
	failsNext(t, upTo(mostVars), without(mostVars), api.ErrNone)
	failsNext(t, upTo(mostVars), api.Assign{}, api.ErrNone)
	if api.MaxSolver != mostVars {
		t.Errorf("MaxSolver is %d", api.MaxSolver)
	}
}

// Each variable that there may be, alone, and what is next to them.
func TestEachVariable(t *testing.T) {
	for v := -2; v <= mostVars+3; v++ {
		h := []int{v}
		if !isVariable(v) {
			failsPush(t, nil, v, api.ErrArg)
			failsPop(t, h, api.ErrBad)
			continue
		}
		if more := push(t, nil, v); !slices.Equal(more, h) {
			t.Fatalf("%d pushed is %v", v, more)
		}
		if got, rest := pop(t, h); got != v || len(rest) > 0 {
			t.Fatalf("%d popped is %d, %v", v, got, rest)
		}
		if got, rest := next(t, h, api.Assign{Vars: v}); got != v || len(rest) > 0 {
			t.Fatalf("the one next of %d is %d, %v", v, got, rest)
		}
		failsPush(t, h, v, api.ErrFull)
		failsNext(t, h, api.Assign{Vars: v - 1}, api.ErrNone)
		failsNext(t, h, api.Assign{Vars: v, Trail: []int{2 * v}}, api.ErrNone)
		failsNext(t, h, api.Assign{Vars: v, Trail: []int{2*v + 1}}, api.ErrNone)
	}
}

// Lists that are much longer than they may be.
func TestLongLists(t *testing.T) {
	long := make([]int, 3000000)
	for i := range long {
		long[i] = i
	}
	for _, h := range [][]int{long, long[1:], long[1:4002], slices.Repeat([]int{1}, 3000000), append(upTo(mostVars), upTo(mostVars)...), append(upTo(mostVars), mostVars)} {
		if e := decide.Check(h); e != api.ErrBad {
			t.Errorf("Check(%s) = %d", short(h), e)
		}
		failsPush(t, h, 1, api.ErrBad)
		failsPop(t, h, api.ErrBad)
		failsNext(t, h, api.Assign{Vars: mostVars}, api.ErrBad)
	}
	failsNext(t, []int{1}, api.Assign{Vars: mostVars, Trail: long[2:]}, api.ErrBad)
	failsNext(t, []int{1}, api.Assign{Vars: mostVars, Trail: []int{2, 4, 6}, Starts: long}, api.ErrBad)
	checks(t, long[1:4001])
	pops(t, long[1:4001])
}
