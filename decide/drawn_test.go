package decide_test

import (
	"fmt"
	"iter"
	"math/rand"
	"slices"
	"testing"

	"spiritlevel/api"
	"spiritlevel/assign"
	"spiritlevel/decide"
)

// What the tests have in common: heaps and assignments, all of a size or drawn, and the chapter's definitions told a second time, against which the package is held.

// Written as a number: the limit must not move with the constants of the program.
const mostVars = 4000

func isVariable(v int) bool { return 1 <= v && v <= mostVars }

// isHeap looks from each variable at what is below it, not from the children at what is above.
func isHeap(h []int) bool {
	there := map[int]bool{}
	for _, v := range h {
		if !isVariable(v) || there[v] {
			return false
		}
		there[v] = true
	}
	for i, v := range h {
		for child := 2*i + 1; child <= 2*i+2 && child < len(h); child++ {
			if h[child] < v {
				return false
			}
		}
	}
	return true
}

func exchanged(h []int, i, j int) []int {
	h = slices.Clone(h)
	h[i], h[j] = h[j], h[i]
	return h
}

// pushed is the heap behind pushing, where this is right.
func pushed(h []int, v int) []int {
	h = append(slices.Clone(h), v)
	for at := len(h) - 1; at > 0; {
		above := at/2 - (at+1)%2
		if h[at] > h[above] {
			break
		}
		h = exchanged(h, at, above)
		at = above
	}
	return h
}

// popped is the first variable, and the heap behind popping, where there is one.
func popped(h []int) (int, []int) {
	first, last := h[0], len(h)-1
	h = exchanged(h, 0, last)[:last]
	at := 0
	for {
		var less []int
		for _, child := range []int{2*at + 1, 2*at + 2} {
			if child < len(h) && h[child] < h[at] {
				less = append(less, child)
			}
		}
		if len(less) == 0 {
			return first, h
		}
		down := slices.MinFunc(less, func(i, j int) int { return h[i] - h[j] })
		h = exchanged(h, at, down)
		at = down
	}
}

func has(a api.Assign, v int) bool {
	return slices.Contains(a.Trail, 2*v) || slices.Contains(a.Trail, 2*v+1)
}

func wantedCheck(h []int) api.Errno {
	if !isHeap(h) {
		return api.ErrBad
	}
	return api.OK
}

func wantedPush(h []int, v int) ([]int, api.Errno) {
	switch {
	case !isHeap(h):
		return nil, api.ErrBad
	case !isVariable(v):
		return nil, api.ErrArg
	case slices.Contains(h, v):
		return nil, api.ErrFull
	}
	return pushed(h, v), api.OK
}

func wantedPop(h []int) (int, []int, api.Errno) {
	switch {
	case !isHeap(h):
		return 0, nil, api.ErrBad
	case len(h) == 0:
		return 0, nil, api.ErrNone
	}
	v, rest := popped(h)
	return v, rest, api.OK
}

func wantedNext(h []int, a api.Assign) (int, []int, api.Errno) {
	if !isHeap(h) {
		return 0, nil, api.ErrBad
	}
	if e := assign.Check(a); e != api.OK {
		return 0, nil, e
	}
	for len(h) > 0 {
		var v int
		v, h = popped(h)
		if v <= a.Vars && !has(a, v) {
			return v, h, api.OK
		}
	}
	return 0, nil, api.ErrNone
}

// short returns what may be printed of anything.
func short(v any) string {
	s := fmt.Sprintf("%v", v)
	if len(s) > 300 {
		return s[:300] + ".."
	}
	return s
}

// checks, pushes, pops and nexts test that a function says what the chapter does.

func checks(t *testing.T, h []int) {
	t.Helper()
	want := wantedCheck(h)
	if e := decide.Check(h); e != want {
		t.Errorf("Check(%s) = %d; want %d", short(h), e, want)
	}
}

func pushes(t *testing.T, h []int, v int) {
	t.Helper()
	want, wantError := wantedPush(h, v)
	if more, e := decide.Push(h, v); !slices.Equal(more, want) || e != wantError {
		t.Errorf("Push(%s, %d) = %s, %d; want %s, %d", short(h), v, short(more), e, short(want), wantError)
	}
}

func pops(t *testing.T, h []int) {
	t.Helper()
	want, wantRest, wantError := wantedPop(h)
	if v, rest, e := decide.Pop(h); v != want || !slices.Equal(rest, wantRest) || e != wantError {
		t.Errorf("Pop(%s) = %d, %s, %d; want %d, %s, %d", short(h), v, short(rest), e, want, short(wantRest), wantError)
	}
}

func nexts(t *testing.T, h []int, a api.Assign) {
	t.Helper()
	want, wantRest, wantError := wantedNext(h, a)
	if v, rest, e := decide.Next(h, a); v != want || !slices.Equal(rest, wantRest) || e != wantError {
		t.Errorf("Next(%s, %s) = %d, %s, %d; want %d, %s, %d", short(h), short(a), v, short(rest), e, want, short(wantRest), wantError)
	}
}

// push, pop and next call a function where it has to be right.

func push(t *testing.T, h []int, v int) []int {
	t.Helper()
	more, e := decide.Push(h, v)
	if e != api.OK {
		t.Fatalf("Push(%s, %d): error %d", short(h), v, e)
	}
	return more
}

func pop(t *testing.T, h []int) (int, []int) {
	t.Helper()
	v, rest, e := decide.Pop(h)
	if e != api.OK {
		t.Fatalf("Pop(%s): error %d", short(h), e)
	}
	return v, rest
}

func next(t *testing.T, h []int, a api.Assign) (int, []int) {
	t.Helper()
	v, rest, e := decide.Next(h, a)
	if e != api.OK {
		t.Fatalf("Next(%s, %s): error %d", short(h), short(a), e)
	}
	return v, rest
}

// allLists yields all lists of up to so many of the numbers.
func allLists(numbers []int, most int) iter.Seq[[]int] {
	return func(yield func([]int) bool) {
		if !yield(nil) || most == 0 {
			return
		}
		for _, n := range numbers {
			for list := range allLists(numbers, most-1) {
				if !yield(append([]int{n}, list...)) {
					return
				}
			}
		}
	}
}

// allHeaps are those of the variables: each one with each variable behind it that may stand there.
func allHeaps(variables []int) [][]int {
	all := [][]int{nil}
	for at := 0; at < len(all); at++ {
		for _, v := range variables {
			if more := append(slices.Clone(all[at]), v); isHeap(more) {
				all = append(all, more)
			}
		}
	}
	return all
}

// allAssigns are the valid ones of so many variables: each one without a literal more, then with each literal that it may have, decided or implied.
func allAssigns(vars int) []api.Assign {
	all := []api.Assign{{Vars: vars}}
	for at := 0; at < len(all); at++ {
		a := all[at]
		for l := 2; l <= 2*vars+1; l++ {
			if has(a, l/2) {
				continue
			}
			trail := append(slices.Clone(a.Trail), l)
			decided := append(slices.Clone(a.Starts), len(a.Trail))
			all = append(all, api.Assign{Vars: vars, Trail: trail, Starts: slices.Clone(a.Starts)}, api.Assign{Vars: vars, Trail: slices.Clone(trail), Starts: decided})
		}
	}
	return all
}

// upTo are the variables up to one.
func upTo(vars int) []int {
	var list []int
	for v := 1; v <= vars; v++ {
		list = append(list, v)
	}
	return list
}

// drawnHeap has so many variables of those up to one, put into some order.
func drawnHeap(rnd *rand.Rand, vars, size int) []int {
	h := upTo(vars)
	rnd.Shuffle(vars, func(i, j int) { h[i], h[j] = h[j], h[i] })
	h = h[:size]
	// From the last parent on, each variable goes down until no child is less: not how pushing makes heaps.
	for i := size/2 - 1; i >= 0; i-- {
		for at := i; ; {
			down := at
			for child := 2*at + 1; child <= 2*at+2 && child < size; child++ {
				if h[child] < h[down] {
					down = child
				}
			}
			if down == at {
				break
			}
			h[at], h[down] = h[down], h[at]
			at = down
		}
	}
	return h
}

// drawnAssign has about so many of a hundred variables, and about so many of a hundred literals are decisions.
func drawnAssign(rnd *rand.Rand, vars, percent, decided int) api.Assign {
	a := api.Assign{Vars: vars}
	for _, v := range rnd.Perm(vars) {
		if rnd.Intn(100) >= percent {
			continue
		}
		if rnd.Intn(100) < decided {
			a.Starts = append(a.Starts, len(a.Trail))
		}
		a.Trail = append(a.Trail, 2*v+2+rnd.Intn(2))
	}
	return a
}

// without has values for all of so many variables but these.
func without(vars int, none ...int) api.Assign {
	a := api.Assign{Vars: vars}
	for v := 1; v <= vars; v++ {
		if !slices.Contains(none, v) {
			a.Trail = append(a.Trail, 2*v+v%2)
		}
	}
	return a
}

// sorted are the same variables, in increasing order.
func sorted(h []int) []int {
	list := slices.Clone(h)
	slices.Sort(list)
	return list
}
