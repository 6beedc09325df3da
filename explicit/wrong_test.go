package explicit_test

import (
	"math"
	"slices"
	"testing"

	"spiritlevel/api"
	"spiritlevel/gates"
)

// What is not valid, or not small, in the order of the errors.

// wrongCircuits are not valid. Some of them would not be small, either.
func wrongCircuits() map[string]api.Circuit {
	return map[string]api.Circuit{
		"Inputs below 0":                        {Inputs: -1},
		"the least Inputs":                      {Inputs: math.MinInt, Bads: make([]int, 101)},
		"Inputs below 0, and seven latches":     {Inputs: -1, Latches: make([]api.Latch, 7)},
		"Inputs below 0, and too many latches":  {Inputs: -2000, Latches: make([]api.Latch, 2000)},
		"too many inputs":                       {Inputs: 1001},
		"the greatest Inputs":                   {Inputs: math.MaxInt, Latches: make([]api.Latch, 1)},
		"too many latches":                      {Inputs: 1, Latches: make([]api.Latch, 1000)},
		"too many gates":                        {Latches: make([]api.Latch, 1), Ands: make([]api.And, 1000)},
		"too many bad literals":                 {Bads: make([]int, 101)},
		"too many constraints":                  {Constraints: make([]int, 101)},
		"too many, and a wrong literal":         {Inputs: 1001, Bads: []int{-1}},
		"a bad literal":                         {Inputs: 1, Bads: []int{4}},
		"a bad literal, and too many inputs":    {Inputs: 11, Bads: []int{24}},
		"a constraint":                          {Inputs: 1, Constraints: []int{-1}},
		"a constraint, and too many latches":    {Latches: make([]api.Latch, 7), Constraints: []int{16}},
		"next":                                  {Latches: []api.Latch{{Next: 4}}},
		"next, of the last of seven latches":    {Latches: append(make([]api.Latch, 6), api.Latch{Next: 16})},
		"a reset":                               {Latches: []api.Latch{{Reset: 3}}},
		"a reset below 0":                       {Latches: []api.Latch{{Reset: -1}}},
		"a reset of the last of seven latches":  {Latches: append(make([]api.Latch, 6), api.Latch{Reset: 3})},
		"the lesser part first":                 {Inputs: 2, Ands: []api.And{{A: 2, B: 4}}},
		"the lesser part first, and 500 inputs": {Inputs: 500, Ands: []api.And{{A: 2, B: 4}}},
		"a gate of itself":                      {Inputs: 2, Ands: []api.And{{A: 6, B: 4}}},
		"a part below 0":                        {Inputs: 2, Ands: []api.And{{A: 4, B: -1}}},
	}
}

// sizes are lengths of lists that might be states.
func sizes() []int { return []int{0, 1, 2, 5, 6, 7, 8, 10, 11, 999, 1000, 1001, 5000} }

func TestTheCircuitComesFirst(t *testing.T) {
	tried := map[api.Errno]int{}
	for name, c := range wrongCircuits() {
		want := gates.Check(c)
		tried[want]++
		fails(t, name, c, want)
		failsOf(t, name, c, make([]bool, len(c.Latches)), want)
		failsOf(t, name, c, nil, want)
		for _, size := range sizes() {
			failsOf(t, name+", and any list", c, make([]bool, size), want)
		}
	}
	if tried[api.ErrBad] < 5 || tried[api.ErrMany] < 5 || len(tried) != 2 {
		t.Fatalf("the errors are %v", tried)
	}
}

// All numbers of inputs and latches around those of small circuits.
func TestSmallCircuits(t *testing.T) {
	for latches := range 13 {
		for inputs := range 16 {
			for _, bads := range [][]int{nil, {1}, {2 * (inputs + latches)}} {
				c := api.Circuit{Inputs: inputs, Latches: slices.Repeat([]api.Latch{{Next: 2 * (inputs + latches), Reset: api.ReAny}}, latches), Bads: bads}
				state := make([]bool, latches)
				if latches <= 6 && latches+inputs <= 10 {
					firstsOf(t, c)
					reachedOf(t, c)
					verdictOf(t, c)
					safeOf(t, c, state)
					continue
				}
				fails(t, "not small", c, api.ErrMany)
				failsOf(t, "not small", c, state, api.ErrMany)
				failsOf(t, "not small, and no state", c, append(state, o), api.ErrMany)
				failsOf(t, "not small, and no state", c, nil, api.ErrMany)
			}
		}
	}
	for _, c := range []api.Circuit{{Inputs: 1000}, {Latches: make([]api.Latch, 1000)}, {Inputs: 500, Latches: make([]api.Latch, 500), Bads: []int{1}}, {Inputs: 994, Latches: make([]api.Latch, 6)}, {Inputs: 3, Latches: make([]api.Latch, 7), Bads: []int{1}}} {
		fails(t, "far from small", c, api.ErrMany)
		failsOf(t, "far from small", c, make([]bool, len(c.Latches)), api.ErrMany)
	}
}

// Gates, bad literals and constraints do not count.
func TestSmallCircuitsWithAllTheRest(t *testing.T) {
	for _, c := range []api.Circuit{full(), {Ands: make([]api.And, 1000), Bads: make([]int, 100), Constraints: make([]int, 100)}, {Inputs: 10, Ands: make([]api.And, 990), Bads: []int{2001}}, {Inputs: 4, Latches: make([]api.Latch, 6), Ands: make([]api.And, 990), Bads: []int{2001}}} {
		if lastOf(c) != api.MaxVars {
			t.Errorf("%d variables", lastOf(c))
		}
		agrees(t, "small", c)
		c.Ands = append(slices.Clone(c.Ands), api.And{})
		fails(t, "a gate too many", c, api.ErrMany)
		failsOf(t, "a gate too many", c, make([]bool, len(c.Latches)), api.ErrMany)
	}
}

func TestStatesThatAreNone(t *testing.T) {
	for latches := range 7 {
		for _, c := range []api.Circuit{{Latches: make([]api.Latch, latches)}, {Inputs: 2, Latches: slices.Repeat([]api.Latch{{Next: 2, Reset: api.ReAny}}, latches), Bads: []int{4}}} {
			for _, size := range sizes() {
				if size == latches {
					continue
				}
				failsOf(t, "only false", c, make([]bool, size), api.ErrArg)
				failsOf(t, "only true", c, slices.Repeat([]bool{x}, size), api.ErrArg)
				failsOf(t, "room for more", c, make([]bool, size, 6000), api.ErrArg)
			}
			if latches > 0 {
				failsOf(t, "nil", c, nil, api.ErrArg)
			}
		}
	}
	// Without bad literals, and where no constraint holds, too.
	failsOf(t, "nothing is bad", api.Circuit{Latches: make([]api.Latch, 2)}, []bool{o}, api.ErrArg)
	failsOf(t, "nothing holds", api.Circuit{Latches: make([]api.Latch, 2), Bads: []int{1}, Constraints: []int{0}}, []bool{o, o, o}, api.ErrArg)
	failsOf(t, "inputs are no state", api.Circuit{Inputs: 3, Latches: make([]api.Latch, 2)}, []bool{o, o, o}, api.ErrArg)
}
