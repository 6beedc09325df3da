package ascii_test

import (
	"math"
	"math/rand"
	"reflect"
	"slices"
	"strings"
	"sync"
	"testing"

	"spiritlevel/api"
	"spiritlevel/ascii"
	"spiritlevel/gates"
	"spiritlevel/order"
)

// P1: R1 to R7. That errors come in order, and alone, is tested in wrong_test.go.

// roomy returns the list with used memory behind its length.
func roomy[T any](list []T, behind T) []T {
	return append(slices.Clone(list), behind, behind)[:len(list)]
}

func roomyRaw(r api.Raw) api.Raw {
	r.Inputs, r.Bads, r.Constraints = roomy(r.Inputs, 77), roomy(r.Bads, 77), roomy(r.Constraints, 77)
	r.Latches, r.Ands = roomy(r.Latches, api.Define{Lit: 77, A: 78, B: 2}), roomy(r.Ands, api.Define{Lit: 77, A: 78, B: 79})
	return r
}

func roomyCircuit(c api.Circuit) api.Circuit {
	c.Latches, c.Ands = roomy(c.Latches, api.Latch{Next: 77, Reset: 7}), roomy(c.Ands, api.And{A: 77, B: 78})
	c.Bads, c.Constraints = roomy(c.Bads, 77), roomy(c.Constraints, 77)
	return c
}

// all returns a copy of all the memory of a list.
func all[T any](list []T) []T { return slices.Clone(list[:cap(list)]) }

func wholeRaw(r api.Raw) api.Raw {
	r.Inputs, r.Latches, r.Ands, r.Bads, r.Constraints = all(r.Inputs), all(r.Latches), all(r.Ands), all(r.Bads), all(r.Constraints)
	return r
}

func wholeCircuit(c api.Circuit) api.Circuit {
	c.Latches, c.Ands, c.Bads, c.Constraints = all(c.Latches), all(c.Ands), all(c.Bads), all(c.Constraints)
	return c
}

// onlyReads tests that a raw circuit is as it was after all calls with it.
func onlyReads(t *testing.T, name string, r api.Raw) {
	t.Helper()
	r = roomyRaw(r)
	before := wholeRaw(r)
	ascii.Raw(r)
	ascii.Lines(r)
	if after := wholeRaw(r); !reflect.DeepEqual(before, after) {
		t.Fatalf("%s: the raw circuit %+v became %+v", name, before, after)
	}
}

func onlyReadsCircuit(t *testing.T, name string, c api.Circuit) {
	t.Helper()
	c = roomyCircuit(c)
	before := wholeCircuit(c)
	ascii.Text(c)
	if after := wholeCircuit(c); !reflect.DeepEqual(before, after) {
		t.Fatalf("%s: the circuit %+v became %+v", name, before, after)
	}
}

func TestArgumentsAreOnlyRead(t *testing.T) {
	for r := range raws() {
		onlyReads(t, "a valid one", r)
	}
	for _, f := range faults() {
		r := example()
		f.put(&r)
		onlyReads(t, f.name, r)
	}
	for c := range circuits(t) {
		onlyReadsCircuit(t, "a valid one", c)
	}
	for _, x := range wrongCircuits() {
		onlyReadsCircuit(t, x.name, x.c)
	}
}

// What stands behind the length of a list does not count.
func TestMemoryBehindListsDoesNotMatter(t *testing.T) {
	for r := range raws() {
		if s, n := textOf(t, roomyRaw(r)), linesOf(t, roomyRaw(r)); s != textOf(t, r) || n != linesOf(t, r) {
			t.Fatalf("with memory behind its lists %+v has the text %q, of %d lines", r, s, n)
		}
	}
	for c := range circuits(t) {
		if s := circuitTextOf(t, roomyCircuit(c)); s != circuitTextOf(t, c) {
			t.Fatalf("with memory behind its lists %+v has the text %q", c, s)
		}
	}
}

func TestTextsStayWhenArgumentsChange(t *testing.T) {
	r := example()
	kept := textOf(t, r)
	want := strings.Clone(kept)
	for _, p := range places(&r) {
		*p = 0
	}
	if kept != want || textOf(t, example()) != want {
		t.Errorf("after the raw circuit was changed, the text is %q; it was %q", kept, want)
	}
}

func TestNilAndEmptyListsAreEqual(t *testing.T) {
	raw := api.Raw{Inputs: []int{}, Latches: []api.Define{}, Ands: []api.Define{}, Bads: []int{}, Constraints: []int{}}
	circuit := api.Circuit{Latches: []api.Latch{}, Ands: []api.And{}, Bads: []int{}, Constraints: []int{}}
	const want = "aag 0 0 0 0 0 0 0\n"
	for _, r := range []api.Raw{raw, {}} {
		shows(t, "none of all", r, strings.TrimSpace(want))
		r.Inputs, r.Most = []int{8}, 4
		shows(t, "an input", r, "aag 4 1 0 0 0 0 0", "8")
		r.Inputs[0] = 9
		rawFails(t, "an odd input", r, api.ErrBad)
	}
	for _, c := range []api.Circuit{circuit, {}} {
		if s := circuitTextOf(t, c); s != want {
			t.Errorf("Text(%+v) = %q", c, s)
		}
		c.Inputs = 1001
		circuitFails(t, "too many inputs", c, api.ErrMany)
	}
}

func TestNothingPanics(t *testing.T) {
	rnd := rand.New(rand.NewSource(72))
	numbers := append(farOff(), 0, 1, 2, 3, 4, 5, 6, 7, 2000, 2001)
	pick := func() int { return numbers[rnd.Intn(len(numbers))] }
	list := func() []int {
		var l []int
		for range rnd.Intn(3) {
			l = append(l, pick())
		}
		return l
	}
	for range 20000 {
		r := api.Raw{Most: rnd.Intn(6), Inputs: list(), Bads: list(), Constraints: list()}
		if rnd.Intn(3) == 0 {
			r.Most = pick()
		}
		c := api.Circuit{Inputs: r.Most, Bads: r.Bads, Constraints: r.Constraints}
		for range rnd.Intn(3) {
			r.Latches, r.Ands = append(r.Latches, api.Define{Lit: pick(), A: pick(), B: pick()}), append(r.Ands, api.Define{Lit: pick(), A: pick(), B: pick()})
			c.Latches, c.Ands = append(c.Latches, api.Latch{Next: pick(), Reset: pick()}), append(c.Ands, api.And{A: pick(), B: pick()})
		}
		if e := order.Check(r); e != api.OK {
			rawFails(t, "numbers", r, e)
		} else if s := textOf(t, r); s != wantedText(r) || linesOf(t, r) != strings.Count(s, "\n") {
			t.Fatalf("Raw(%+v) = %q", r, s)
		}
		if e := gates.Check(c); e != api.OK {
			circuitFails(t, "numbers", c, e)
		} else if s := circuitTextOf(t, c); s != wantedCircuitText(c) {
			t.Fatalf("Text(%+v) = %q", c, s)
		}
	}
	for _, n := range []int{math.MinInt, math.MaxInt} {
		ascii.Raw(api.Raw{Most: n, Inputs: []int{n}, Latches: []api.Define{{Lit: n, A: n, B: n}}, Ands: []api.Define{{Lit: n, A: n, B: n}}, Bads: []int{n}, Constraints: []int{n}})
		ascii.Lines(api.Raw{Most: n})
		ascii.Text(api.Circuit{Inputs: n, Latches: []api.Latch{{Next: n, Reset: n}}, Ands: []api.And{{A: n, B: n}}})
	}
}

// Calls at the same time, and one after the other, have results of their own.
func TestNothingIsKept(t *testing.T) {
	var group sync.WaitGroup
	for range 4 {
		for r := range raws() {
			group.Go(func() {
				s, _ := ascii.Raw(r)
				n, _ := ascii.Lines(r)
				ascii.Raw(example())
				ascii.Text(api.Circuit{Inputs: -1})
				again, _ := ascii.Raw(r)
				if want := wantedText(r); s != want || again != want || n != strings.Count(want, "\n") {
					t.Errorf("Raw(%+v) = %q, and again %q; Lines = %d", r, s, again, n)
				}
			})
		}
	}
	group.Wait()
}
