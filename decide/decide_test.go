package decide_test

import (
	"math/rand"
	"slices"
	"testing"

	"spiritlevel/api"
	"spiritlevel/decide"
)

// The chapter's example.
func TestExample(t *testing.T) {
	var h []int
	for _, v := range []int{5, 3, 8, 1} {
		h = push(t, h, v)
	}
	if !slices.Equal(h, []int{1, 3, 8, 5}) {
		t.Fatalf("pushed it is %v", h)
	}
	v, rest := pop(t, h)
	if v != 1 || !slices.Equal(rest, []int{3, 5, 8}) {
		t.Errorf("popped it is %d, %v", v, rest)
	}
	a := api.Assign{Vars: 9, Trail: []int{3, 11}}
	v, rest = next(t, h, a)
	if v != 3 || !slices.Equal(rest, []int{5, 8}) {
		t.Errorf("the next one is %d, %v", v, rest)
	}
	v, rest = next(t, rest, a)
	if v != 8 || len(rest) != 0 {
		t.Errorf("the one behind it is %d, %v", v, rest)
	}
}

// P16.1

func TestCheckExamples(t *testing.T) {
	for _, y := range []struct {
		h    []int
		want api.Errno
	}{
		{nil, api.OK}, {[]int{}, api.OK}, {[]int{1}, api.OK}, {[]int{7}, api.OK}, {[]int{4000}, api.OK}, {[]int{3999, 4000}, api.OK},
		{[]int{1, 2, 3}, api.OK}, {[]int{1, 3, 2}, api.OK}, {[]int{1, 3, 8, 5}, api.OK}, {[]int{1, 3, 8, 5, 4}, api.OK}, {[]int{1, 5, 2, 6, 7, 3, 4}, api.OK}, {[]int{1, 100, 2, 101, 102, 3, 4, 200}, api.OK},
		// No variables.
		{[]int{0}, api.ErrBad}, {[]int{-1}, api.ErrBad}, {[]int{4001}, api.ErrBad}, {[]int{0, 1}, api.ErrBad}, {[]int{1, 4001}, api.ErrBad}, {[]int{-1, 1, 2}, api.ErrBad}, {[]int{1, 2, 8000}, api.ErrBad},
		// A variable twice, in line or not.
		{[]int{1, 1}, api.ErrBad}, {[]int{1, 2, 2}, api.ErrBad}, {[]int{1, 2, 3, 3}, api.ErrBad}, {[]int{1, 2, 3, 4, 4}, api.ErrBad}, {[]int{1, 2, 3, 4, 5, 6, 4}, api.ErrBad}, {[]int{4000, 4000}, api.ErrBad},
		// Less than the parent: each child of each one.
		{[]int{2, 1}, api.ErrBad}, {[]int{2, 3, 1}, api.ErrBad}, {[]int{1, 3, 4, 2}, api.ErrBad}, {[]int{1, 3, 4, 5, 2}, api.ErrBad}, {[]int{1, 3, 4, 5, 6, 2}, api.ErrBad}, {[]int{1, 3, 4, 5, 6, 7, 2}, api.ErrBad}, {[]int{1, 2, 3, 5, 6, 7, 8, 4}, api.ErrBad}, {[]int{1, 2, 3, 5, 6, 7, 8, 9, 4}, api.ErrBad},
		// Less than the one before it, but not than the parent.
		{[]int{1, 2, 5, 4}, api.OK}, {[]int{1, 2, 6, 5, 4}, api.OK}, {[]int{1, 7, 2, 9, 8, 4, 3}, api.OK},
		// Less than the first one, further below.
		{[]int{2, 4, 3, 1}, api.ErrBad},
	} {
		if e := decide.Check(y.h); e != y.want {
			t.Errorf("Check(%v) = %d; want %d", y.h, e, y.want)
		}
	}
}

// All lists of few numbers: variables, and what is next to them.
func TestCheckOfAllLists(t *testing.T) {
	for h := range allLists([]int{-1, 0, 1, 2, 3, 4}, 6) {
		checks(t, h)
	}
	for h := range allLists([]int{3998, 3999, 4000, 4001}, 6) {
		checks(t, h)
	}
}

// Each two neighbours of a heap exchanged, each one put in the place of each other one, and each one changed.
func TestCheckOfWhatIsNextToHeaps(t *testing.T) {
	rnd := rand.New(rand.NewSource(161))
	wrong := 0
	for range 60 {
		h := drawnHeap(rnd, 40, rnd.Intn(41))
		checks(t, h)
		for i := range h {
			for j := range h {
				other := exchanged(h, i, j)
				checks(t, other)
				other = slices.Clone(h)
				other[i] = h[j]
				checks(t, other)
			}
			for _, n := range []int{0, -1, 41, h[i] - 1, h[i] + 1, 4000, 4001} {
				other := slices.Clone(h)
				other[i] = n
				checks(t, other)
				if !isHeap(other) {
					wrong++
				}
			}
		}
		if t.Failed() {
			return
		}
	}
	if wrong < 2000 {
		t.Errorf("%d were no heaps", wrong)
	}
}

func TestPushExamples(t *testing.T) {
	for _, y := range []struct {
		h    []int
		v    int
		want []int
	}{
		{nil, 1, []int{1}}, {[]int{}, 4000, []int{4000}}, {[]int{1}, 2, []int{1, 2}}, {[]int{2}, 1, []int{1, 2}}, {[]int{3999}, 4000, []int{3999, 4000}},
		{[]int{1, 3}, 2, []int{1, 3, 2}}, {[]int{2, 3}, 1, []int{1, 3, 2}}, {[]int{3, 5, 8}, 1, []int{1, 3, 8, 5}}, {[]int{3, 5, 8}, 4, []int{3, 4, 8, 5}}, {[]int{3, 5, 8}, 6, []int{3, 5, 8, 6}}, {[]int{1, 3, 8, 5}, 2, []int{1, 2, 8, 5, 3}},
		// As far as it is less, and no further.
		{[]int{1, 3, 2, 7, 5, 6, 4}, 8, []int{1, 3, 2, 7, 5, 6, 4, 8}}, {[]int{1, 3, 2, 8, 5, 6, 4}, 7, []int{1, 3, 2, 7, 5, 6, 4, 8}}, {[]int{1, 4, 2, 8, 5, 6, 7}, 3, []int{1, 3, 2, 4, 5, 6, 7, 8}}, {[]int{2, 4, 3, 8, 5, 6, 7}, 1, []int{1, 2, 3, 4, 5, 6, 7, 8}},
	} {
		h, e := decide.Push(y.h, y.v)
		if !slices.Equal(h, y.want) || e != api.OK {
			t.Errorf("Push(%v, %d) = %v, %d; want %v", y.h, y.v, h, e, y.want)
		}
	}
}

// All heaps of few variables, with each of them, and what is next to them.
func TestPushOnAllHeaps(t *testing.T) {
	for _, h := range allHeaps(upTo(7)) {
		for v := -2; v <= 9; v++ {
			pushes(t, h, v)
		}
	}
	for _, h := range allHeaps([]int{1, 2, 3997, 3998, 3999, 4000}) {
		for _, v := range []int{0, 1, 2, 3, 3996, 3997, 3998, 3999, 4000, 4001} {
			pushes(t, h, v)
		}
	}
}

func TestDrawnPushes(t *testing.T) {
	rnd := rand.New(rand.NewSource(162))
	first, last := 0, 0
	for range 3000 {
		vars := 2 + rnd.Intn(200)
		h := drawnHeap(rnd, vars, rnd.Intn(vars))
		v := 1 + rnd.Intn(vars)
		pushes(t, h, v)
		if slices.Contains(h, v) || len(h) < 3 {
			continue
		}
		switch slices.Index(push(t, h, v), v) {
		case 0:
			first++
		case len(h):
			last++
		}
	}
	if first < 20 || last < 500 || first+last > 1400 {
		t.Errorf("%d came to the first place, %d stayed in the last one", first, last)
	}
}

// P16.2

func TestPopExamples(t *testing.T) {
	for _, y := range []struct {
		h    []int
		v    int
		rest []int
	}{
		{[]int{1}, 1, nil}, {[]int{4000}, 4000, nil}, {[]int{1, 2}, 1, []int{2}}, {[]int{1, 2, 3}, 1, []int{2, 3}}, {[]int{1, 3, 2}, 1, []int{2, 3}}, {[]int{3, 5, 8}, 3, []int{5, 8}}, {[]int{3998, 4000, 3999}, 3998, []int{3999, 4000}},
		// Only one child of the first one, or of another one.
		{[]int{1, 2, 3}, 1, []int{2, 3}}, {[]int{1, 2, 3, 4, 5}, 1, []int{2, 4, 3, 5}}, {[]int{1, 2, 5, 3, 4}, 1, []int{2, 3, 5, 4}},
		// Below the lesser child, whichever it is, as far as one is less.
		{[]int{1, 2, 3, 4, 5, 6, 7}, 1, []int{2, 4, 3, 7, 5, 6}}, {[]int{1, 3, 2, 7, 6, 5, 4}, 1, []int{2, 3, 4, 7, 6, 5}}, {[]int{1, 3, 2, 7, 6, 4, 5}, 1, []int{2, 3, 4, 7, 6, 5}}, {[]int{1, 2, 4, 8, 9, 5, 6}, 1, []int{2, 6, 4, 8, 9, 5}}, {[]int{1, 4, 2, 5, 6, 7, 3}, 1, []int{2, 4, 3, 5, 6, 7}},
	} {
		v, rest, e := decide.Pop(y.h)
		if v != y.v || !slices.Equal(rest, y.rest) || e != api.OK {
			t.Errorf("Pop(%v) = %d, %v, %d; want %d, %v", y.h, v, rest, e, y.v, y.rest)
		}
	}
}

func TestPopOfAllHeaps(t *testing.T) {
	for _, h := range allHeaps(upTo(9)) {
		pops(t, h)
	}
	for _, h := range allHeaps([]int{1, 2, 3, 3997, 3998, 3999, 4000}) {
		pops(t, h)
	}
}

func TestDrawnPops(t *testing.T) {
	rnd := rand.New(rand.NewSource(163))
	for range 2000 {
		vars := 1 + rnd.Intn(200)
		pops(t, drawnHeap(rnd, vars, rnd.Intn(vars+1)))
	}
	for range 10 {
		pops(t, drawnHeap(rnd, mostVars, mostVars-rnd.Intn(3)))
	}
}

// P16.3

func TestNextExamples(t *testing.T) {
	h := []int{1, 3, 8, 5}
	for _, y := range []struct {
		h    []int
		a    api.Assign
		v    int
		rest []int
	}{
		// None has a value: it is the first one.
		{h, api.Assign{Vars: 9}, 1, []int{3, 5, 8}}, {h, api.Assign{Vars: 1}, 1, []int{3, 5, 8}}, {h, api.Assign{Vars: 4000}, 1, []int{3, 5, 8}}, {[]int{4000}, api.Assign{Vars: 4000}, 4000, nil},
		// A value is true or false, decided or implied.
		{h, api.Assign{Vars: 9, Trail: []int{2}}, 3, []int{5, 8}}, {h, api.Assign{Vars: 9, Trail: []int{3}}, 3, []int{5, 8}}, {h, api.Assign{Vars: 9, Trail: []int{3}, Starts: []int{0}}, 3, []int{5, 8}}, {h, api.Assign{Vars: 9, Trail: []int{2, 7}, Starts: []int{1}}, 5, []int{8}}, {h, api.Assign{Vars: 9, Trail: []int{11, 6, 3}}, 8, nil}, {h, api.Assign{Vars: 8, Trail: []int{11, 6, 3}}, 8, nil},
		// Those behind it stay, whether they have a value or not, or are too great.
		{h, api.Assign{Vars: 9, Trail: []int{16, 10}}, 1, []int{3, 5, 8}}, {h, api.Assign{Vars: 4, Trail: []int{3}}, 3, []int{5, 8}}, {h, api.Assign{Vars: 5, Trail: []int{3, 6}}, 5, []int{8}},
		// Values of variables that are not in the heap do not count.
		{h, api.Assign{Vars: 9, Trail: []int{4, 8, 13, 15, 18}}, 1, []int{3, 5, 8}},
		// The numbers of variables are not those of literals.
		{[]int{2, 3}, api.Assign{Vars: 3, Trail: []int{2}}, 2, []int{3}}, {[]int{2, 3}, api.Assign{Vars: 3, Trail: []int{3}}, 2, []int{3}}, {[]int{2, 3}, api.Assign{Vars: 3, Trail: []int{4}}, 3, nil},
	} {
		v, rest, e := decide.Next(y.h, y.a)
		if v != y.v || !slices.Equal(rest, y.rest) || e != api.OK {
			t.Errorf("Next(%v, %v) = %d, %v, %d; want %d, %v", y.h, y.a, v, rest, e, y.v, y.rest)
		}
	}
}

// All heaps of few variables, with all assignments of few.
func TestNextOfAllHeaps(t *testing.T) {
	heaps := allHeaps(upTo(5))
	for vars := range 4 {
		for _, a := range allAssigns(vars) {
			for _, h := range heaps {
				nexts(t, h, a)
			}
			if t.Failed() {
				return
			}
		}
	}
}

// More variables, of which all sets have values.
func TestNextWithAllSetsOfValues(t *testing.T) {
	rnd := rand.New(rand.NewSource(164))
	for _, h := range allHeaps(upTo(6)) {
		for vars := range 8 {
			for set := range 1 << vars {
				a := api.Assign{Vars: vars}
				for _, v := range rnd.Perm(vars) {
					if set>>v&1 == 1 {
						a.Trail = append(a.Trail, 2*v+2+rnd.Intn(2))
					}
				}
				nexts(t, h, a)
			}
			if t.Failed() {
				return
			}
		}
	}
}

func TestDrawnNexts(t *testing.T) {
	rnd := rand.New(rand.NewSource(165))
	found, none, far := 0, 0, 0
	for range 4000 {
		most := 1 + rnd.Intn(60)
		h := drawnHeap(rnd, most, rnd.Intn(most+1))
		a := drawnAssign(rnd, rnd.Intn(60), rnd.Intn(101), rnd.Intn(101))
		nexts(t, h, a)
		v, rest, e := decide.Next(h, a)
		switch {
		case e == api.ErrNone:
			none++
		case len(h)-len(rest) > 3:
			far++
			fallthrough
		default:
			found++
			if v > a.Vars || has(a, v) {
				t.Errorf("Next(%v, %v) = %d", h, a, v)
			}
		}
		if t.Failed() {
			return
		}
	}
	if found < 1000 || none < 500 || far < 300 {
		t.Errorf("%d were found, %d of them behind three others, and %d times there was none", found, far, none)
	}
}

// As many variables as there may be: each one is next, if it alone has no value.
func TestNextOfTheMostVariables(t *testing.T) {
	rnd := rand.New(rand.NewSource(166))
	h := drawnHeap(rnd, mostVars, mostVars)
	for _, v := range []int{1, 2, 3, 4, 500, 2000, 3998, 3999, 4000} {
		got, rest := next(t, h, without(mostVars, v))
		if got != v || !slices.Equal(sorted(rest), upTo(mostVars)[v:]) || !isHeap(rest) {
			t.Errorf("without a value of %d alone it is %d, %s", v, got, short(rest))
		}
		if v <= 4 {
			nexts(t, h, without(mostVars, v))
		}
		// The last one has none either, and does not come first.
		got, rest = next(t, h, without(mostVars, v, mostVars))
		if got != v || len(rest) != mostVars-v {
			t.Errorf("without values of %d and the last one it is %d, %s", v, got, short(rest))
		}
	}
	for _, a := range []api.Assign{without(mostVars), without(3), {}, without(2000)} {
		if v, rest, e := decide.Next(nil, a); v != 0 || len(rest) != 0 || e != api.ErrNone {
			t.Errorf("of no variables it is %d, %v, %d", v, rest, e)
		}
		if v, rest, e := decide.Next(h, a); v != 0 || len(rest) != 0 || e != api.ErrNone {
			t.Errorf("with values of all of %d variables it is %d, %s, %d", a.Vars, v, short(rest), e)
		}
	}
}
