package gates_test

import (
	"math"
	"slices"
	"testing"

	"spiritlevel/api"
	"spiritlevel/gates"
)

// Written as numbers: the limits must not move with the constants of the program.
const (
	mostVars  = 1000
	mostProps = 100
)

// farOff are numbers that are no literals, variables or resets of any circuit.
var farOff = []int{-1, -2, -1000, -2001, 2002, 2003, 4000, math.MinInt32, math.MaxInt32, math.MinInt, math.MinInt + 1, math.MinInt / 2, math.MaxInt / 2, math.MaxInt - 1, math.MaxInt}

// example is the circuit of the chapter's section Examples.
func example() api.Circuit {
	return api.Circuit{
		Inputs:      2,
		Latches:     []api.Latch{{Next: 10, Reset: 0}},
		Ands:        []api.And{{A: 4, B: 2}, {A: 8, B: 7}},
		Bads:        []int{10, 1},
		Constraints: []int{0, 5},
	}
}

// full has 1,000 variables, all of them inputs, latches and gates, and 100 bad literals and constraints.
func full() api.Circuit {
	c := api.Circuit{Inputs: 300, Latches: make([]api.Latch, 300)}
	for i := range 400 {
		c.Ands = append(c.Ands, api.And{A: 2*(601+i) - 1, B: i})
	}
	c.Latches[299] = api.Latch{Next: 2001, Reset: 2}
	c.Bads = slices.Repeat([]int{2001}, mostProps)
	c.Constraints = slices.Repeat([]int{2000}, mostProps)
	return c
}

// checks tests what all functions say of the circuit.
func checks(t *testing.T, name string, c api.Circuit, want api.Errno) {
	t.Helper()
	if e := gates.Check(c); e != want {
		t.Errorf("%s: Check says %d; want %d", name, e, want)
	}
	n, e := gates.Vars(c)
	sum := 0
	if want == api.OK {
		sum = c.Inputs + len(c.Latches) + len(c.Ands)
	}
	if n != sum || e != want {
		t.Errorf("%s: Vars = %d, %d; want %d, %d", name, n, e, sum, want)
	}
	if want != api.OK {
		failsEverywhere(t, name, c, want)
	}
}

// failsEverywhere tests that Check's error comes first, whatever the other argument is.
func failsEverywhere(t *testing.T, name string, c api.Circuit, want api.Errno) {
	t.Helper()
	for _, x := range append([]int{0, 1, 2, 3, 2001}, farOff...) {
		if kind, index, e := gates.Kind(c, x); kind != 0 || index != 0 || e != want {
			t.Errorf("%s: Kind(%d) = %d, %d, %d; want error %d", name, x, kind, index, e, want)
		}
		if cone, e := gates.Cone(c, x); len(cone) != 0 || e != want {
			t.Errorf("%s: Cone(%d) = %v, %d; want error %d", name, x, cone, e, want)
		}
	}
	if d, e := gates.Depth(c); d != 0 || e != want {
		t.Errorf("%s: Depth = %d, %d; want error %d", name, d, e, want)
	}
}

// P2.1

func TestValidCircuits(t *testing.T) {
	checks(t, "none", api.Circuit{}, api.OK)
	checks(t, "empty lists", api.Circuit{Latches: []api.Latch{}, Ands: []api.And{}, Bads: []int{}, Constraints: []int{}}, api.OK)
	checks(t, "constants only", api.Circuit{Bads: []int{0, 1}, Constraints: []int{1, 0}}, api.OK)
	checks(t, "example", example(), api.OK)
	checks(t, "full", full(), api.OK)
	checks(t, "a gate of constants", api.Circuit{Ands: []api.And{{A: 0, B: 0}, {A: 1, B: 0}, {A: 1, B: 1}}}, api.OK)
	checks(t, "a latch before its gate", api.Circuit{Latches: []api.Latch{{Next: 5, Reset: 1}, {Next: 7, Reset: 2}}, Ands: []api.And{{A: 4, B: 3}}}, api.OK)
}

func TestInputsBelowZero(t *testing.T) {
	for _, n := range []int{-1, -2, -1000, math.MinInt32, math.MinInt, math.MinInt + 1} {
		checks(t, "alone", api.Circuit{Inputs: n}, api.ErrBad)
		// Latches or gates must not make up for what is missing.
		checks(t, "latches", api.Circuit{Inputs: n, Latches: make([]api.Latch, 3)}, api.ErrBad)
		checks(t, "gates", api.Circuit{Inputs: n, Ands: make([]api.And, 3)}, api.ErrBad)
	}
}

func TestManyVariables(t *testing.T) {
	for _, x := range []struct {
		inputs, latches, ands int
		want                  api.Errno
	}{
		{1000, 0, 0, api.OK}, {0, 1000, 0, api.OK}, {0, 0, 1000, api.OK}, {998, 1, 1, api.OK}, {1, 998, 1, api.OK}, {1, 1, 998, api.OK},
		{1001, 0, 0, api.ErrMany}, {0, 1001, 0, api.ErrMany}, {0, 0, 1001, api.ErrMany},
		{1000, 1, 0, api.ErrMany}, {1000, 0, 1, api.ErrMany}, {1, 1000, 0, api.ErrMany}, {0, 1000, 1, api.ErrMany}, {1, 0, 1000, api.ErrMany}, {0, 1, 1000, api.ErrMany},
		{999, 1, 1, api.ErrMany}, {1, 999, 1, api.ErrMany}, {1, 1, 999, api.ErrMany}, {334, 334, 333, api.ErrMany}, {5000, 5000, 5000, api.ErrMany},
		{math.MaxInt, 0, 0, api.ErrMany}, {math.MaxInt - 1, 0, 0, api.ErrMany}, {math.MaxInt32, 0, 0, api.ErrMany},
		// Sums that wrap around.
		{math.MaxInt, 1, 0, api.ErrMany}, {math.MaxInt, 0, 1, api.ErrMany}, {math.MaxInt, 500, 500, api.ErrMany}, {math.MaxInt, 1000, 1000, api.ErrMany}, {math.MaxInt - 1, 1, 1, api.ErrMany},
	} {
		c := api.Circuit{Inputs: x.inputs, Latches: make([]api.Latch, x.latches), Ands: make([]api.And, x.ands)}
		if got := gates.Check(c); got != x.want {
			t.Errorf("%d inputs, %d latches, %d gates: %d; want %d", x.inputs, x.latches, x.ands, got, x.want)
		}
		checks(t, "many variables", c, x.want)
	}
}

func TestManyProps(t *testing.T) {
	for _, x := range []struct {
		n    int
		want api.Errno
	}{{0, api.OK}, {99, api.OK}, {100, api.OK}, {101, api.ErrMany}, {102, api.ErrMany}, {1001, api.ErrMany}} {
		checks(t, "bad literals", api.Circuit{Bads: make([]int, x.n)}, x.want)
		checks(t, "constraints", api.Circuit{Constraints: make([]int, x.n)}, x.want)
		checks(t, "both", api.Circuit{Bads: make([]int, x.n), Constraints: make([]int, x.n)}, x.want)
		checks(t, "constraints, and as many bad literals as there may be", api.Circuit{Bads: make([]int, 100), Constraints: make([]int, x.n)}, x.want)
	}
	// Each list counts for itself, and other lists do not count.
	checks(t, "inputs and latches", api.Circuit{Inputs: 101, Latches: make([]api.Latch, 101), Ands: make([]api.And, 101)}, api.OK)
}

// The places of a circuit where a literal of one of its variables must stand.
var places = []struct {
	name string
	put  func(c *api.Circuit, l int)
}{
	{"next", func(c *api.Circuit, l int) { c.Latches[0].Next = l }},
	{"bad", func(c *api.Circuit, l int) { c.Bads[0] = l }},
	{"last bad", func(c *api.Circuit, l int) { c.Bads[len(c.Bads)-1] = l }},
	{"constraint", func(c *api.Circuit, l int) { c.Constraints[0] = l }},
	{"last constraint", func(c *api.Circuit, l int) { c.Constraints[len(c.Constraints)-1] = l }},
}

func TestLiterals(t *testing.T) {
	for _, p := range places {
		for l := range 12 {
			c := example()
			p.put(&c, l)
			checks(t, p.name, c, api.OK)
		}
		for _, l := range append([]int{12, 13, 14, 1000, 2000, 2001}, farOff...) {
			c := example()
			p.put(&c, l)
			checks(t, p.name, c, api.ErrBad)
		}
		for _, l := range farOff {
			c := full()
			p.put(&c, l)
			checks(t, "full: "+p.name, c, api.ErrBad)
		}
	}
}

func TestLiteralsWithoutVariables(t *testing.T) {
	for l := -2; l < 5; l++ {
		want := api.ErrBad
		if l == 0 || l == 1 {
			want = api.OK
		}
		checks(t, "bad", api.Circuit{Bads: []int{l}}, want)
		checks(t, "constraint", api.Circuit{Constraints: []int{l}}, want)
	}
}

func TestLastLatch(t *testing.T) {
	c := full()
	c.Latches[299].Next = 2002
	checks(t, "next of the last latch", c, api.ErrBad)
	c = full()
	c.Latches[299].Reset = 3
	checks(t, "reset of the last latch", c, api.ErrBad)
}

func TestResets(t *testing.T) {
	for r := -1; r <= 3; r++ {
		want := api.OK
		if r < 0 || r > 2 {
			want = api.ErrBad
		}
		c := example()
		c.Latches[0].Reset = r
		checks(t, "reset", c, want)
		checks(t, "a latch alone", api.Circuit{Latches: []api.Latch{{Next: 0, Reset: r}}}, want)
	}
	for _, r := range farOff {
		c := example()
		c.Latches[0].Reset = r
		checks(t, "reset", c, api.ErrBad)
	}
}

// The second gate of the example is the variable 5, with the literal 10.
func TestParts(t *testing.T) {
	for a := -2; a < 14; a++ {
		for b := -2; b < 14; b++ {
			want := api.ErrBad
			if 0 <= b && b <= a && a < 10 {
				want = api.OK
			}
			c := example()
			c.Ands[1] = api.And{A: a, B: b}
			checks(t, "second gate", c, want)
		}
	}
}

func TestPartsOfTheFirstGate(t *testing.T) {
	for _, x := range []struct {
		a, b int
		want api.Errno
	}{
		{7, 7, api.OK}, {7, 6, api.OK}, {6, 7, api.ErrBad}, {4, 2, api.OK}, {2, 4, api.ErrBad}, {0, 0, api.OK}, {0, 1, api.ErrBad},
		// Its own literal and its negation, and what comes behind it.
		{8, 2, api.ErrBad}, {9, 2, api.ErrBad}, {8, 8, api.ErrBad}, {9, 8, api.ErrBad}, {10, 2, api.ErrBad}, {11, 10, api.ErrBad},
		{7, -1, api.ErrBad}, {-1, -1, api.ErrBad}, {-1, -2, api.ErrBad}, {0, -1, api.ErrBad},
	} {
		c := example()
		c.Ands[0] = api.And{A: x.a, B: x.b}
		checks(t, "first gate", c, x.want)
	}
}

func TestPartsFarOff(t *testing.T) {
	for _, build := range []func() api.Circuit{example, full} {
		for _, l := range farOff {
			for _, m := range append([]int{0, 1, 2, 7}, farOff...) {
				for _, g := range []api.And{{A: l, B: m}, {A: m, B: l}} {
					c := build()
					c.Ands[0] = g
					checks(t, "first gate", c, api.ErrBad)
					c = build()
					c.Ands[len(c.Ands)-1] = g
					checks(t, "last gate", c, api.ErrBad)
				}
			}
		}
	}
	for _, l := range []int{2000, 2001} {
		c := full()
		c.Ands[len(c.Ands)-1] = api.And{A: l, B: 2}
		checks(t, "the last gate of itself", c, api.ErrBad)
	}
}

func TestSeveralFaults(t *testing.T) {
	many := make([]int, 101)
	wrong := api.Circuit{
		Inputs:      -1,
		Latches:     slices.Repeat([]api.Latch{{Next: -1, Reset: 9}}, 1001),
		Ands:        slices.Repeat([]api.And{{A: 1, B: 2}}, 1001),
		Bads:        slices.Repeat([]int{-1}, 101),
		Constraints: slices.Repeat([]int{math.MaxInt}, 101),
	}
	checks(t, "Inputs first", wrong, api.ErrBad)
	checks(t, "Inputs before bad literals", api.Circuit{Inputs: -1, Bads: many}, api.ErrBad)
	checks(t, "Inputs before constraints", api.Circuit{Inputs: math.MinInt, Constraints: many}, api.ErrBad)
	checks(t, "Inputs before variables", api.Circuit{Inputs: -1, Ands: make([]api.And, 1002)}, api.ErrBad)
	wrong.Inputs = 0
	checks(t, "then too many of all", wrong, api.ErrMany)
	for _, p := range places {
		for _, grow := range []func(c *api.Circuit){
			func(c *api.Circuit) { c.Inputs = 1000 },
			func(c *api.Circuit) { c.Inputs = math.MaxInt },
			func(c *api.Circuit) { c.Latches = append(c.Latches, make([]api.Latch, 1000)...) },
			func(c *api.Circuit) { c.Ands = append(c.Ands, make([]api.And, 1000)...) },
			func(c *api.Circuit) { c.Bads = append(c.Bads, many...) },
			func(c *api.Circuit) { c.Constraints = append(c.Constraints, many...) },
		} {
			c := example()
			p.put(&c, -1)
			c.Latches[0].Reset = 3
			c.Ands[0] = api.And{A: 2, B: 4}
			grow(&c)
			checks(t, "too many before "+p.name, c, api.ErrMany)
		}
	}
}

// isValid is the definition of the chapter, said once more, for small circuits.
func isValid(c api.Circuit) bool {
	end := 2 * (c.Inputs + len(c.Latches) + len(c.Ands) + 1)
	valid := c.Inputs >= 0
	for _, l := range slices.Concat(c.Bads, c.Constraints) {
		valid = valid && 0 <= l && l < end
	}
	for _, l := range c.Latches {
		valid = valid && 0 <= l.Next && l.Next < end && slices.Contains([]int{0, 1, 2}, l.Reset)
	}
	for i, g := range c.Ands {
		own := 2 * (1 + c.Inputs + len(c.Latches) + i)
		valid = valid && g.A >= g.B && g.B >= 0 && g.A < own
	}
	return valid
}

func TestSmallCircuitsAreValidAsDefined(t *testing.T) {
	right, wrong := 0, 0
	for c := range smallCircuits() {
		want := api.OK
		if !isValid(c) {
			want = api.ErrBad
			wrong++
		} else {
			right++
		}
		if e := gates.Check(c); e != want {
			t.Fatalf("Check(%+v) = %d; want %d", c, e, want)
		}
	}
	if right < 1000 || wrong < 1000 {
		t.Fatalf("%d valid circuits, %d others", right, wrong)
	}
}
