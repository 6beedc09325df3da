package ascii_test

import (
	"math"
	"slices"
	"testing"

	"spiritlevel/api"
	"spiritlevel/ascii"
	"spiritlevel/gates"
	"spiritlevel/order"
)

// What is not valid, in the order of the errors.

// farOff are numbers that are no literals, greatest variables or resets of any raw circuit.
func farOff() []int {
	return []int{-1, -2, -1000, -2001, 2002, 2003, 4000, math.MinInt32, math.MaxInt32, math.MinInt, math.MinInt + 1, math.MinInt / 2, math.MaxInt / 2, math.MaxInt - 1, math.MaxInt}
}

// rawFails tests that Raw and Lines return the error, which is that of order.Check, and nothing else.
func rawFails(t *testing.T, name string, r api.Raw, want api.Errno) {
	t.Helper()
	if e := order.Check(r); e != want {
		t.Fatalf("%s: order.Check says %d; want %d", name, e, want)
	}
	if s, e := ascii.Raw(r); s != "" || e != want {
		t.Errorf("%s: Raw = %q, %d; want error %d", name, s, e, want)
	}
	if n, e := ascii.Lines(r); n != 0 || e != want {
		t.Errorf("%s: Lines = %d, %d; want error %d", name, n, e, want)
	}
}

// circuitFails tests that Text returns the error, which is that of gates.Check, and nothing else.
func circuitFails(t *testing.T, name string, c api.Circuit, want api.Errno) {
	t.Helper()
	if e := gates.Check(c); e != want {
		t.Fatalf("%s: gates.Check says %d; want %d", name, e, want)
	}
	if s, e := ascii.Text(c); s != "" || e != want {
		t.Errorf("%s: Text = %q, %d; want error %d", name, s, e, want)
	}
}

// fault makes a raw circuit wrong.
type fault struct {
	name string
	want api.Errno
	put  func(r *api.Raw)
}

// faults are in the order in which the errors are named: an earlier one counts before a later one, and may undo it.
func faults() []fault {
	return []fault{
		{"Most below 0", api.ErrBad, func(r *api.Raw) { r.Most = -1 }},
		{"the least Most", api.ErrBad, func(r *api.Raw) { r.Most = math.MinInt }},
		{"Most too great", api.ErrMany, func(r *api.Raw) { r.Most = 1001 }},
		{"the greatest Most", api.ErrMany, func(r *api.Raw) { r.Most = math.MaxInt }},
		{"too many inputs", api.ErrMany, func(r *api.Raw) { r.Inputs = append(r.Inputs, make([]int, 1000)...) }},
		{"too many latches", api.ErrMany, func(r *api.Raw) { r.Latches = append(r.Latches, make([]api.Define, 1000)...) }},
		{"too many gates", api.ErrMany, func(r *api.Raw) { r.Ands = append(r.Ands, make([]api.Define, 1000)...) }},
		{"too many bad literals", api.ErrMany, func(r *api.Raw) { r.Bads = append(r.Bads, make([]int, 100)...) }},
		{"too many constraints", api.ErrMany, func(r *api.Raw) { r.Constraints = append(r.Constraints, make([]int, 100)...) }},
		{"an odd input", api.ErrBad, func(r *api.Raw) { r.Inputs = append(r.Inputs, 7) }},
		{"a latch 0", api.ErrBad, func(r *api.Raw) { r.Latches = append(r.Latches, api.Define{}) }},
		{"a gate 1", api.ErrBad, func(r *api.Raw) { r.Ands = append(r.Ands, api.Define{Lit: 1}) }},
		{"a part below 0", api.ErrBad, func(r *api.Raw) { r.Ands = append(r.Ands, api.Define{Lit: 16, A: 2, B: -1}) }},
		{"a part above Most", api.ErrBad, func(r *api.Raw) { r.Ands = append(r.Ands, api.Define{Lit: 16, A: 20, B: 2}) }},
		{"a next literal above Most", api.ErrBad, func(r *api.Raw) { r.Latches = append(r.Latches, api.Define{Lit: 16, A: 20}) }},
		{"a bad literal below 0", api.ErrBad, func(r *api.Raw) { r.Bads = append(r.Bads, -1) }},
		{"a constraint too great", api.ErrBad, func(r *api.Raw) { r.Constraints = append(r.Constraints, math.MaxInt) }},
		{"a reset above ReAny", api.ErrBad, func(r *api.Raw) { r.Latches = append(r.Latches, api.Define{Lit: 16, B: 3}) }},
		{"a reset below 0", api.ErrBad, func(r *api.Raw) { r.Latches = append(r.Latches, api.Define{Lit: 16, B: -1}) }},
		{"a reset that is the literal", api.ErrBad, func(r *api.Raw) { r.Latches[0].B = r.Latches[0].Lit }},
		{"an input twice", api.ErrTwice, func(r *api.Raw) { r.Inputs = append(r.Inputs, 2) }},
		{"a latch and an input", api.ErrTwice, func(r *api.Raw) { r.Latches = append(r.Latches, api.Define{Lit: 2}) }},
		{"a gate and a latch", api.ErrTwice, func(r *api.Raw) { r.Ands = append(r.Ands, api.Define{Lit: 8}) }},
		{"an open next literal", api.ErrOpen, func(r *api.Raw) { r.Latches[0].A = 7 }},
		{"an open part", api.ErrOpen, func(r *api.Raw) { r.Ands[1].B = 6 }},
		{"an open bad literal", api.ErrOpen, func(r *api.Raw) { r.Bads[0] = 18 }},
		{"an open constraint", api.ErrOpen, func(r *api.Raw) { r.Constraints[0] = 19 }},
		{"a gate of itself", api.ErrCycle, func(r *api.Raw) { r.Ands[0].A = 14 }},
		{"two gates of each other", api.ErrCycle, func(r *api.Raw) { r.Ands[1].A = 15 }},
	}
}

func TestRawCircuitsThatAreNotValid(t *testing.T) {
	tried := map[api.Errno]int{}
	for _, f := range faults() {
		r := example()
		f.put(&r)
		rawFails(t, f.name, r, f.want)
		tried[f.want]++
	}
	if len(tried) != 5 {
		t.Errorf("the errors are %v", tried)
	}
}

func TestTheErrorThatIsNamedFirst(t *testing.T) {
	all := faults()
	for i, f := range all {
		for _, g := range all[i:] {
			r := example()
			g.put(&r)
			f.put(&r)
			rawFails(t, f.name+" and "+g.name, r, f.want)
		}
	}
	for i := range all {
		r := example()
		for _, f := range slices.Backward(all[i:]) {
			f.put(&r)
		}
		rawFails(t, "all from "+all[i].name+" on", r, all[i].want)
	}
}

// A valid raw circuit becomes wrong in one number.
func TestRawCircuitsWithAWrongNumber(t *testing.T) {
	for _, x := range []struct {
		plain   api.Raw
		numbers []int
	}{{example(), farOff()}, {full(), []int{-1, 2002}}, {api.Raw{Most: 1000}, farOff()}} {
		for i := range places(&x.plain) {
			for _, n := range x.numbers {
				r := cloned(x.plain)
				*places(&r)[i] = n
				want := api.ErrBad
				if i == 0 && n > 0 {
					want = api.ErrMany
				}
				rawFails(t, "a number", r, want)
			}
		}
	}
}

func TestRawCircuitsThatAreTooLarge(t *testing.T) {
	for _, n := range [][3]int{{1001, 0, 0}, {0, 1001, 0}, {0, 0, 1001}, {1000, 1, 0}, {0, 1000, 1}, {1, 0, 1000}, {334, 334, 333}} {
		r := defined(n[0], n[1], n[2], 0)
		rawFails(t, "too many, and Most too great", r, api.ErrMany)
		r.Most = 1000
		rawFails(t, "too many", r, api.ErrMany)
		r.Most = 0
		rawFails(t, "too many, and Most too small", r, api.ErrMany)
		r.Most = -1
		rawFails(t, "too many, and Most below 0", r, api.ErrBad)
	}
	for _, n := range []int{101, 102, 1000} {
		rawFails(t, "too many bad literals", api.Raw{Bads: make([]int, n)}, api.ErrMany)
		rawFails(t, "too many constraints", api.Raw{Constraints: make([]int, n)}, api.ErrMany)
	}
}

// circleOf returns so many gates, each of which is a part of the next one, and the last one of the first.
func circleOf(n int) api.Raw {
	r := api.Raw{Most: 1000}
	for i := range n {
		r.Ands = append(r.Ands, api.Define{Lit: 2 * (1 + i), A: 1, B: 2*(1+(i+n-1)%n) + i%2})
	}
	return r
}

func TestCircles(t *testing.T) {
	for _, n := range []int{1, 2, 3, 10, 1000} {
		r := circleOf(n)
		rawFails(t, "a circle", r, api.ErrCycle)
		r.Bads = []int{2, 3}
		rawFails(t, "a circle with bad literals", r, api.ErrCycle)
		r.Ands[0].B = 0
		if s := textOf(t, r); s != wantedText(r) {
			t.Errorf("the text of a chain of %d gates is %q", n, s)
		}
	}
}

// wrongCircuit is not valid; some of the raw circuits that look like it are, or have another error.
type wrongCircuit struct {
	name string
	c    api.Circuit
	want api.Errno
}

func wrongCircuits() []wrongCircuit {
	return []wrongCircuit{
		{"Inputs below 0", api.Circuit{Inputs: -1}, api.ErrBad},
		{"the least Inputs", api.Circuit{Inputs: math.MinInt, Bads: make([]int, 101)}, api.ErrBad},
		{"Inputs below 0, with as many latches", api.Circuit{Inputs: -2, Latches: make([]api.Latch, 2)}, api.ErrBad},
		{"too many inputs", api.Circuit{Inputs: 1001}, api.ErrMany},
		{"the greatest Inputs", api.Circuit{Inputs: math.MaxInt, Latches: make([]api.Latch, 1)}, api.ErrMany},
		{"too many latches", api.Circuit{Latches: make([]api.Latch, 1001)}, api.ErrMany},
		{"too many gates", api.Circuit{Ands: make([]api.And, 1001)}, api.ErrMany},
		{"too many variables", api.Circuit{Inputs: 334, Latches: make([]api.Latch, 334), Ands: make([]api.And, 333)}, api.ErrMany},
		{"too many bad literals", api.Circuit{Bads: make([]int, 101)}, api.ErrMany},
		{"too many constraints", api.Circuit{Constraints: make([]int, 101)}, api.ErrMany},
		{"too many, and a wrong literal", api.Circuit{Inputs: 1001, Bads: []int{-1}}, api.ErrMany},
		{"a bad literal above all", api.Circuit{Inputs: 1, Bads: []int{2, 4}}, api.ErrBad},
		{"a bad literal below 0", api.Circuit{Inputs: 1, Bads: []int{-1, 2}}, api.ErrBad},
		{"a constraint above all", api.Circuit{Inputs: 1, Constraints: []int{2, 4}}, api.ErrBad},
		{"a constraint below 0", api.Circuit{Inputs: 1, Constraints: []int{-1, 2}}, api.ErrBad},
		{"a next literal above all", api.Circuit{Latches: []api.Latch{{Next: 4}}}, api.ErrBad},
		{"a next literal below 0", api.Circuit{Latches: []api.Latch{{Next: -1}}}, api.ErrBad},
		{"a reset above ReAny", api.Circuit{Latches: []api.Latch{{Reset: 3}}}, api.ErrBad},
		{"a reset below 0", api.Circuit{Latches: []api.Latch{{Reset: -1}}}, api.ErrBad},
		{"a reset that is the literal", api.Circuit{Inputs: 1, Latches: []api.Latch{{Reset: 4}}}, api.ErrBad},
		{"the lesser part first", api.Circuit{Inputs: 2, Ands: []api.And{{A: 2, B: 4}}}, api.ErrBad},
		{"a part below 0", api.Circuit{Inputs: 2, Ands: []api.And{{A: 4, B: -1}}}, api.ErrBad},
		{"a part that is a later gate", api.Circuit{Inputs: 2, Ands: []api.And{{A: 8, B: 4}, {A: 4, B: 2}}}, api.ErrBad},
		{"a gate of itself", api.Circuit{Inputs: 2, Ands: []api.And{{A: 6, B: 4}}}, api.ErrBad},
		{"two gates of each other", api.Circuit{Ands: []api.And{{A: 4, B: 0}, {A: 2, B: 0}}}, api.ErrBad},
	}
}

func TestCircuitsThatAreNotValid(t *testing.T) {
	tried := map[api.Errno]int{}
	for _, x := range wrongCircuits() {
		circuitFails(t, x.name, x.c, x.want)
		tried[x.want]++
	}
	if len(tried) != 2 || tried[api.ErrBad] == 0 || tried[api.ErrMany] == 0 {
		t.Errorf("the errors are %v", tried)
	}
}

func TestCircuitsThatBecomeWrong(t *testing.T) {
	for c := range circuits(t) {
		end := 2 * (1 + c.Inputs + len(c.Latches) + len(c.Ands))
		for _, l := range append(farOff(), end, end+1) {
			wrong := c
			wrong.Bads = append(slices.Clone(c.Bads[:min(99, len(c.Bads))]), l)
			circuitFails(t, "a bad literal", wrong, api.ErrBad)
			wrong.Bads, wrong.Constraints = c.Bads, []int{l}
			circuitFails(t, "a constraint", wrong, api.ErrBad)
			wrong.Constraints = make([]int, 101)
			circuitFails(t, "too many constraints", wrong, api.ErrMany)
			if n := len(c.Latches); n > 0 {
				wrong.Constraints, wrong.Latches = nil, slices.Clone(c.Latches)
				wrong.Latches[n-1].Next = l
				circuitFails(t, "a next literal", wrong, api.ErrBad)
			}
			if n := len(c.Ands); n > 0 {
				wrong.Constraints, wrong.Latches, wrong.Ands = nil, c.Latches, slices.Clone(c.Ands)
				wrong.Ands[n-1].A = l
				circuitFails(t, "a part", wrong, api.ErrBad)
			}
		}
	}
}
