package decide_test

import (
	"container/heap"
	"math/rand"
	"slices"
	"testing"

	"spiritlevel/api"
	"spiritlevel/assign"
	"spiritlevel/decide"
)

// P16.4: what the functions say agrees.

// allPopped are all variables, popped one after the other.
func allPopped(t *testing.T, h []int) []int {
	t.Helper()
	var list []int
	for len(h) > 0 {
		v, rest := pop(t, h)
		if len(rest) != len(h)-1 {
			t.Fatalf("Pop(%s) leaves %s", short(h), short(rest))
		}
		list, h = append(list, v), rest
	}
	return list
}

func allPushed(t *testing.T, order []int) []int {
	t.Helper()
	var h []int
	for _, v := range order {
		h = push(t, h, v)
	}
	return h
}

// orders yields all orders of a list, which it changes.
func orders(list []int, from int, yield func([]int)) {
	if from == len(list) {
		yield(list)
		return
	}
	for i := from; i < len(list); i++ {
		list[from], list[i] = list[i], list[from]
		orders(list, from+1, yield)
		list[from], list[i] = list[i], list[from]
	}
}

func TestPoppedIsLessThanAllThatStays(t *testing.T) {
	for _, h := range allHeaps(upTo(8)) {
		if len(h) == 0 {
			continue
		}
		v, rest := pop(t, h)
		if e := decide.Check(rest); e != api.OK {
			t.Fatalf("Pop(%v) leaves %v, of which Check says %d", h, rest, e)
		}
		for _, w := range rest {
			if v >= w {
				t.Fatalf("Pop(%v) = %d, %v", h, v, rest)
			}
		}
		if all := append(slices.Clone(rest), v); !slices.Equal(sorted(all), sorted(h)) {
			t.Fatalf("Pop(%v) = %d, %v", h, v, rest)
		}
	}
}

// In whatever order they were pushed, they come in increasing order.
func TestAllOrdersComeInIncreasingOrder(t *testing.T) {
	for _, all := range [][]int{upTo(1), upTo(2), upTo(5), upTo(7), {1, 2, 3, 3998, 3999, 4000}} {
		want := slices.Clone(all)
		orders(all, 0, func(order []int) {
			if h := allPushed(t, order); !isHeap(h) || !slices.Equal(allPopped(t, h), want) {
				t.Fatalf("%v pushed are %v, and popped %v", order, h, allPopped(t, h))
			}
		})
	}
	for _, h := range allHeaps(upTo(8)) {
		if list := allPopped(t, h); !slices.Equal(list, sorted(h)) {
			t.Fatalf("%v popped are %v", h, list)
		}
	}
}

func TestDrawnOrdersComeInIncreasingOrder(t *testing.T) {
	rnd := rand.New(rand.NewSource(167))
	for range 100 {
		order := rnd.Perm(mostVars)[:rnd.Intn(200)]
		for i := range order {
			order[i]++
		}
		if list := allPopped(t, allPushed(t, order)); !slices.Equal(list, sorted(order)) {
			t.Fatalf("%v pushed, and popped, are %v", order, list)
		}
	}
}

// All variables that there are: in order, in the opposite one, or in any one.
func TestTheMostVariables(t *testing.T) {
	all := upTo(mostVars)
	order := slices.Clone(all)
	rnd := rand.New(rand.NewSource(168))
	for i := range 3 {
		h := allPushed(t, order)
		if len(h) != mostVars || decide.Check(h) != api.OK {
			t.Fatalf("of all variables it is %s", short(h))
		}
		for _, v := range []int{1, 2, 2000, 3999, 4000} {
			if more, e := decide.Push(h, v); more != nil || e != api.ErrFull {
				t.Errorf("with %d once more it is %s, %d", v, short(more), e)
			}
		}
		if more, e := decide.Push(h, mostVars+1); more != nil || e != api.ErrArg {
			t.Errorf("with one more it is %s, %d", short(more), e)
		}
		if list := allPopped(t, h); !slices.Equal(list, all) {
			t.Errorf("popped they are %s", short(list))
		}
		if i == 0 {
			slices.Reverse(order)
		} else {
			rnd.Shuffle(mostVars, func(i, j int) { order[i], order[j] = order[j], order[i] })
		}
	}
}

// What is pushed is there besides what was there, and nothing else.
func TestPushingAddsOneVariable(t *testing.T) {
	for _, h := range allHeaps(upTo(7)) {
		for v := 1; v <= 8; v++ {
			if slices.Contains(h, v) {
				continue
			}
			more := push(t, h, v)
			if e := decide.Check(more); e != api.OK || !slices.Equal(sorted(more), sorted(append(slices.Clone(h), v))) {
				t.Fatalf("Push(%v, %d) = %v, of which Check says %d", h, v, more, e)
			}
		}
	}
}

// Next returns the least variable without a value; what it takes away besides has one, or is too great; all that is greater stays.
func tellsNext(t *testing.T, h []int, a api.Assign) {
	t.Helper()
	v, rest, e := decide.Next(h, a)
	least, above := 0, []int(nil)
	for _, w := range sorted(h) {
		value := api.VaTrue
		if w <= a.Vars {
			value, _ = assign.Value(a, 2*w)
		}
		if least > 0 {
			above = append(above, w)
		} else if value == api.VaNone {
			least = w
		}
	}
	want := api.OK
	if least == 0 {
		want = api.ErrNone
	}
	if v != least || e != want || !slices.Equal(sorted(rest), above) || decide.Check(rest) != api.OK {
		t.Errorf("Next(%s, %s) = %d, %s, %d; want %d, %s, %d", short(h), short(a), v, short(rest), e, least, short(above), want)
	}
}

func TestNextIsTheLeastWithoutAValue(t *testing.T) {
	heaps := allHeaps(upTo(5))
	for vars := range 4 {
		for _, a := range allAssigns(vars) {
			for _, h := range heaps {
				tellsNext(t, h, a)
			}
			if t.Failed() {
				return
			}
		}
	}
	rnd := rand.New(rand.NewSource(169))
	for range 1000 {
		most := 1 + rnd.Intn(100)
		h := drawnHeap(rnd, most, rnd.Intn(most+1))
		tellsNext(t, h, drawnAssign(rnd, rnd.Intn(100), rnd.Intn(101), rnd.Intn(101)))
	}
	for range 5 {
		tellsNext(t, drawnHeap(rnd, mostVars, mostVars-5), drawnAssign(rnd, mostVars, 90, 50))
	}
}

// Next is the last one of some that are popped.
func TestNextIsPoppedBehindOthers(t *testing.T) {
	rnd := rand.New(rand.NewSource(170))
	behind := 0
	for range 2000 {
		most := 1 + rnd.Intn(40)
		h := drawnHeap(rnd, most, 1+rnd.Intn(most))
		a := drawnAssign(rnd, rnd.Intn(40), rnd.Intn(101), 50)
		v, rest, e := decide.Next(h, a)
		for e == api.OK && len(h) > 0 {
			var w int
			w, h = pop(t, h)
			if w == v {
				break
			}
			behind++
			if w <= a.Vars && !has(a, w) {
				t.Fatalf("%d was taken away for %d, and has no value under %v", w, v, a)
			}
		}
		if e == api.OK && !slices.Equal(h, rest) {
			t.Fatalf("behind %d there is %v; popped one after the other %v", v, rest, h)
		}
	}
	if behind < 1000 {
		t.Errorf("%d were popped before", behind)
	}
}

// With no values, and all variables, Next is Pop.
func TestNextWithoutValuesIsPop(t *testing.T) {
	for _, h := range allHeaps(upTo(7)) {
		v, rest, e := decide.Pop(h)
		w, left, f := decide.Next(h, api.Assign{Vars: mostVars})
		if v != w || e != f || !slices.Equal(rest, left) {
			t.Fatalf("Pop(%v) = %d, %v, %d; Next is %d, %v, %d", h, v, rest, e, w, left, f)
		}
	}
}

// Pushed and popped, a variable that is less than all others leaves the same ones.
func TestPushedAndPoppedItLeavesTheSame(t *testing.T) {
	shift := []int{2, 3, 4, 5, 6, 7, 8, 9}
	for _, h := range allHeaps(shift) {
		v, rest := pop(t, push(t, h, 1))
		if v != 1 || !slices.Equal(sorted(rest), sorted(h)) || decide.Check(rest) != api.OK {
			t.Fatalf("with 1 pushed, and popped, %v is %d, %v", h, v, rest)
		}
	}
	rnd := rand.New(rand.NewSource(171))
	for range 500 {
		h := drawnHeap(rnd, 300, rnd.Intn(300))
		least := slices.Min(append(slices.Clone(h), 301))
		if least == 1 {
			continue
		}
		v, rest := pop(t, push(t, h, least-1))
		if v != least-1 || !slices.Equal(sorted(rest), sorted(h)) {
			t.Fatalf("with %d pushed, and popped, %v is %d, %v", least-1, h, v, rest)
		}
	}
}

// library is a heap as the library has it, which pushes and pops in the same way.
type library []int

func (l library) Len() int           { return len(l) }
func (l library) Less(i, j int) bool { return l[i] < l[j] }
func (l library) Swap(i, j int)      { l[i], l[j] = l[j], l[i] }
func (l *library) Push(v any)        { *l = append(*l, v.(int)) }
func (l *library) Pop() any {
	last := len(*l) - 1
	v := (*l)[last]
	*l = (*l)[:last]
	return v
}

// Variables come and go; the library has the same heap.
func TestDrawnWays(t *testing.T) {
	rnd := rand.New(rand.NewSource(172))
	greatest, gone := 0, 0
	for round := range 60 {
		vars := 1 + rnd.Intn(400)
		var h []int
		beside := library{}
		for range 600 {
			v := 1 + rnd.Intn(vars)
			switch {
			case rnd.Intn(5) > 1 && !slices.Contains(h, v):
				h = push(t, h, v)
				heap.Push(&beside, v)
			case rnd.Intn(12) == 0:
				a := drawnAssign(rnd, vars, 80, 30)
				w, rest, e := decide.Next(h, a)
				for beside.Len() > 0 {
					x := heap.Pop(&beside).(int)
					gone++
					if !has(a, x) {
						if x != w || e != api.OK {
							t.Fatalf("Next(%s, %s) = %d; want %d", short(h), short(a), w, x)
						}
						break
					}
				}
				h = rest
			case len(h) > 0 && round%2 == 0:
				w, rest := pop(t, h)
				if x := heap.Pop(&beside).(int); x != w {
					t.Fatalf("Pop(%s) = %d; want %d", short(h), w, x)
				}
				h = rest
			}
			greatest = max(greatest, len(h))
			if !slices.Equal(h, beside) {
				t.Fatalf("it is %s; want %s", short(h), short(beside))
			}
		}
	}
	if greatest < 30 || gone < 2000 {
		t.Errorf("there were up to %d variables, and %d went for the next ones", greatest, gone)
	}
}
