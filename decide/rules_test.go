package decide_test

import (
	"math"
	"math/rand"
	"slices"
	"sync"
	"testing"

	"spiritlevel/api"
	"spiritlevel/decide"
)

// P1: R1 to R7. That errors come in order, and alone, is tested in wrong_test.go.

// roomy returns the list with used memory behind its length.
func roomy(list []int, behind ...int) []int {
	return append(slices.Clone(list), behind...)[:len(list)]
}

// all returns a copy of all the memory of a list.
func all(list []int) []int { return slices.Clone(list[:cap(list)]) }

// fill changes a list, and the memory behind it.
func fill(list []int) {
	list = list[:cap(list)]
	for i := range list {
		list[i] = -77
	}
}

// arguments are those of all functions.
type arguments struct {
	h []int
	v int
	a api.Assign
}

// withRoom returns the arguments with used memory behind all of their lists.
func withRoom(y arguments) arguments {
	a := api.Assign{Vars: y.a.Vars, Trail: roomy(y.a.Trail, 3, 2, 13, -1), Starts: roomy(y.a.Starts, 1, 2, 0, -1)}
	return arguments{roomy(y.h, 1, 2, 9, -1), y.v, a}
}

func memory(y arguments) [][]int { return [][]int{all(y.h), all(y.a.Trail), all(y.a.Starts)} }

func areSame(a, b [][]int) bool { return slices.EqualFunc(a, b, slices.Equal[[]int]) }

// made are the heaps that all functions make, where there is one.
func made(y arguments) [][]int {
	more, _ := decide.Push(y.h, y.v)
	_, less, _ := decide.Pop(y.h)
	_, rest, _ := decide.Next(y.h, y.a)
	return [][]int{more, less, rest}
}

// tells tests all functions.
func tells(t *testing.T, y arguments) {
	t.Helper()
	checks(t, y.h)
	pushes(t, y.h, y.v)
	pops(t, y.h)
	nexts(t, y.h, y.a)
}

// drawnArguments are right ones.
func drawnArguments(seed int64, count int) []arguments {
	rnd := rand.New(rand.NewSource(seed))
	var list []arguments
	for range count {
		most := 1 + rnd.Intn(20)
		h := drawnHeap(rnd, most, rnd.Intn(most+1))
		list = append(list, arguments{h, 1 + rnd.Intn(most+3), drawnAssign(rnd, rnd.Intn(20), rnd.Intn(101), rnd.Intn(101))})
	}
	return list
}

// wrongArguments have something in them that is not valid.
func wrongArguments() []arguments {
	var list []arguments
	for i, h := range wrongHeaps() {
		list = append(list, arguments{h, i, api.Assign{Vars: i, Trail: []int{2}}})
	}
	for i, a := range wrongAssigns() {
		list = append(list, arguments{[]int{1, 3, 8, 5}, i, a})
	}
	for _, n := range wrongNumbers() {
		list = append(list, arguments{[]int{1, 3, 8, 5}, n, api.Assign{Vars: 9, Trail: []int{3, 11}}})
	}
	return list
}

func TestArgumentsAreOnlyRead(t *testing.T) {
	for _, plain := range append(drawnArguments(173, 2000), wrongArguments()...) {
		y := withRoom(plain)
		before := memory(y)
		decide.Check(y.h)
		made(y)
		if !areSame(memory(y), before) {
			t.Fatalf("%v became %v", before, memory(y))
		}
	}
}

// What stands behind the length of a list does not count.
func TestMemoryBehindListsDoesNotMatter(t *testing.T) {
	for _, plain := range append(drawnArguments(174, 2000), wrongArguments()...) {
		tells(t, withRoom(plain))
		if t.Failed() {
			return
		}
	}
	for _, behind := range []int{-1, 0, 1, 2, 3, 4, 9, 4001} {
		for _, h := range allHeaps(upTo(5)) {
			tells(t, arguments{roomy(h, behind, behind), 4, api.Assign{Vars: 5, Trail: roomy([]int{3}, 4, 6)}})
		}
	}
}

// An argument that changes behind the call changes no result, nor the other way round; nor do two results share memory.
func TestResultsShareNoMemory(t *testing.T) {
	for _, plain := range drawnArguments(175, 2000) {
		want := made(plain)
		y := withRoom(plain)
		before := memory(y)
		results, others := made(y), made(y)
		for i, h := range results {
			fill(h)
			if !areSame(memory(y), before) || !areSame(results[i+1:], want[i+1:]) || !areSame(others, want) {
				t.Fatalf("after a result of %v was changed the others are %v and %v; the arguments are %v", plain, results, others, y)
			}
		}
		fill(y.h)
		fill(y.a.Trail)
		fill(y.a.Starts)
		if !areSame(others, want) {
			t.Fatalf("after %v was changed its results are %v; they were %v", plain, others, want)
		}
	}
}

// Two variables pushed on the same heap do not meet, also where it has room behind it.
func TestOneHeapMayGoOnInTwoWays(t *testing.T) {
	var h []int
	for v := 2; v <= 200; v += 2 {
		h = push(t, h, v)
		if v%7 == 0 {
			_, h = pop(t, h)
		}
		kept := slices.Clone(h)
		a, b := push(t, h, 399), push(t, h, 401)
		_, c := pop(t, h)
		d, e := push(t, c, 403), push(t, c, 405)
		for _, y := range []struct {
			h []int
			v int
		}{{a, 399}, {b, 401}, {d, 403}, {e, 405}} {
			if last := y.h[len(y.h)-1]; last != y.v {
				t.Fatalf("%v with %d is %v", kept, y.v, y.h)
			}
		}
		if !slices.Equal(h, kept) {
			t.Fatalf("%v became %v", kept, h)
		}
	}
}

// The lists of arguments may be one and the same, or parts of one.
func TestArgumentsMayShareMemory(t *testing.T) {
	list := []int{2, 4, 6, 8, 10, 12}
	before := slices.Clone(list)
	for _, y := range []arguments{
		{list, 3, api.Assign{Vars: 12, Trail: list, Starts: list[:2]}}, {list[1:], 2, api.Assign{Vars: 6, Trail: list[:3], Starts: list[:1]}}, {list[:3], 4, api.Assign{Vars: 12, Trail: list[2:], Starts: list[:1]}}, {list, 1, api.Assign{Vars: 6, Trail: list, Starts: list}}, {list[:0], 2, api.Assign{Vars: 6, Trail: list[:0], Starts: list[:0]}},
	} {
		tells(t, y)
		made(y)
	}
	if !slices.Equal(list, before) {
		t.Errorf("%v became %v", before, list)
	}
}

func TestNilAndEmptyListsAreEqual(t *testing.T) {
	for _, none := range [][]int{nil, {}} {
		for vars := range 3 {
			a := api.Assign{Vars: vars, Trail: none, Starts: none}
			tells(t, arguments{none, vars, a})
			tells(t, arguments{[]int{1}, vars, a})
			tells(t, arguments{[]int{2}, vars, a})
		}
		tells(t, arguments{none, 4000, api.Assign{Vars: -1, Trail: none, Starts: none}})
		tells(t, arguments{none, 1, api.Assign{Vars: 2, Trail: []int{5}, Starts: none}})
	}
}

// Calls at the same time have results of their own.
func TestNothingIsKept(t *testing.T) {
	var group sync.WaitGroup
	list := append(drawnArguments(176, 300), wrongArguments()...)
	for i := range 8 {
		group.Go(func() {
			for j := range list {
				y := list[(i*61+j)%len(list)]
				tells(t, y)
				for _, h := range made(y) {
					fill(h)
				}
				decide.Check(y.h)
			}
		})
	}
	group.Wait()
}

// Any numbers, and lists of any lengths.
func TestNothingPanics(t *testing.T) {
	numbers := []int{-1, 0, 1, 2, 3, 4, 5, 6, 7, 8, 9, 3999, 4000, 4001, 7999, 8000, 8001, 8002, -2, -3, -8000, math.MinInt32, math.MaxInt32, math.MinInt, math.MinInt + 1, math.MinInt + 2, math.MinInt / 2, math.MaxInt / 2, math.MaxInt - 1, math.MaxInt}
	rnd := rand.New(rand.NewSource(177))
	pick := func() int {
		if rnd.Intn(10) == 0 {
			return numbers[rnd.Intn(len(numbers))]
		}
		return rnd.Intn(12)
	}
	list := func(most int) []int {
		var l []int
		for range rnd.Intn(most) {
			l = append(l, pick())
		}
		if rnd.Intn(3) > 0 {
			slices.Sort(l)
		}
		return l
	}
	right := 0
	for range 100000 {
		y := arguments{list(7), pick(), api.Assign{Vars: pick(), Trail: list(4), Starts: list(3)}}
		tells(t, y)
		if t.Failed() {
			return
		}
		if _, _, e := decide.Next(y.h, y.a); e == api.OK {
			right++
		}
	}
	if right < 3000 {
		t.Errorf("%d of 100000 were right", right)
	}
}
