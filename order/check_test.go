package order_test

import (
	"math"
	"reflect"
	"slices"
	"testing"

	"spiritlevel/api"
	"spiritlevel/order"
)

// Written as numbers: the limits must not move with the constants of the program.
const (
	mostVars  = 1000
	mostProps = 100
)

// farOff are numbers that are no literals, greatest variables or resets of any raw circuit.
var farOff = []int{-1, -2, -1000, -2001, 2002, 2003, 4000, math.MinInt32, math.MaxInt32, math.MinInt, math.MinInt + 1, math.MinInt / 2, math.MaxInt / 2, math.MaxInt - 1, math.MaxInt}

// example has the inputs 2 and 6, the latch 4 and the gates 12 (of 8 and 7) and 8 (of 2 and 5); the variable 5 is not defined.
func example() api.Raw {
	return api.Raw{
		Most:        6,
		Inputs:      []int{6, 2},
		Latches:     []api.Define{{Lit: 4, A: 13, B: 2}},
		Ands:        []api.Define{{Lit: 12, A: 7, B: 8}, {Lit: 8, A: 2, B: 5}},
		Bads:        []int{12, 1, 9},
		Constraints: []int{0, 3, 8},
	}
}

// full defines all variables up to 1,000, each gate before its parts, with 100 bad literals and constraints.
func full() api.Raw {
	r := api.Raw{Most: mostVars}
	for v := range 300 {
		r.Inputs = append(r.Inputs, 2*(1000-v))
		r.Latches = append(r.Latches, api.Define{Lit: 2 * (301 + v), A: 2001 - v, B: v % 3})
	}
	for v := range 299 {
		r.Ands = append(r.Ands, api.Define{Lit: 2 * (1 + v), A: 2*(2+v) + v%2, B: 2*(601+v) + 1})
	}
	r.Ands = append(r.Ands, api.Define{Lit: 600, A: 2000, B: 602})
	for v := range 100 {
		r.Ands = append(r.Ands, api.Define{Lit: 2 * (601 + v), A: 1, B: 2*(301+v) + 1})
	}
	r.Bads = slices.Repeat([]int{2001}, mostProps)
	r.Constraints = slices.Repeat([]int{2}, mostProps)
	return r
}

// checks tests what Check and Circuit say of a raw circuit.
func checks(t *testing.T, name string, r api.Raw, want api.Errno) {
	t.Helper()
	if e := order.Check(r); e != want {
		t.Errorf("%s: Check says %d; want %d", name, e, want)
	}
	c, news, e := order.Circuit(r)
	if e != want {
		t.Errorf("%s: Circuit says %d; want %d", name, e, want)
	}
	if want != api.OK && (!reflect.DeepEqual(c, api.Circuit{}) || len(news) != 0) {
		t.Errorf("%s: with the error %d there are the circuit %+v and the variables %v", name, e, c, news)
	}
}

// P3.1

func TestValidRawCircuits(t *testing.T) {
	checks(t, "none", api.Raw{}, api.OK)
	checks(t, "empty lists", api.Raw{Inputs: []int{}, Latches: []api.Define{}, Ands: []api.Define{}, Bads: []int{}, Constraints: []int{}}, api.OK)
	checks(t, "nothing defined", api.Raw{Most: 1000}, api.OK)
	checks(t, "constants only", api.Raw{Bads: []int{0, 1}, Constraints: []int{1, 0}}, api.OK)
	checks(t, "example", example(), api.OK)
	checks(t, "full", full(), api.OK)
	checks(t, "a latch alone", api.Raw{Most: 1, Latches: []api.Define{{Lit: 2, A: 3}}}, api.OK)
	checks(t, "gates of constants", api.Raw{Most: 3, Ands: []api.Define{{Lit: 2, A: 0, B: 1}, {Lit: 4, A: 1, B: 0}, {Lit: 6, A: 1, B: 1}}}, api.OK)
	checks(t, "a part twice", api.Raw{Most: 2, Inputs: []int{2}, Ands: []api.Define{{Lit: 4, A: 2, B: 2}}}, api.OK)
	checks(t, "the first of the chapter's examples", api.Raw{Most: 4, Inputs: []int{2, 4}, Ands: []api.Define{{Lit: 6, A: 4, B: 8}, {Lit: 8, A: 2, B: 4}}}, api.OK)
	checks(t, "the second of the chapter's examples", api.Raw{Most: 4, Inputs: []int{2}, Ands: []api.Define{{Lit: 6, A: 8, B: 2}, {Lit: 8, A: 6, B: 2}}}, api.ErrCycle)
}

func TestMost(t *testing.T) {
	for _, x := range []struct {
		most int
		want api.Errno
	}{
		{0, api.OK}, {1, api.OK}, {999, api.OK}, {1000, api.OK}, {1001, api.ErrMany}, {1002, api.ErrMany}, {2001, api.ErrMany},
		{math.MaxInt32, api.ErrMany}, {math.MaxInt / 2, api.ErrMany}, {math.MaxInt - 1, api.ErrMany}, {math.MaxInt, api.ErrMany},
		{-1, api.ErrBad}, {-2, api.ErrBad}, {-1000, api.ErrBad}, {math.MinInt32, api.ErrBad}, {math.MinInt / 2, api.ErrBad}, {math.MinInt + 1, api.ErrBad}, {math.MinInt, api.ErrBad},
	} {
		checks(t, "nothing defined", api.Raw{Most: x.most}, x.want)
		checks(t, "constants", api.Raw{Most: x.most, Bads: []int{0}, Constraints: []int{1}}, x.want)
	}
	for most := range 12 {
		r := example()
		r.Most = most
		want := api.OK
		if most < 6 {
			want = api.ErrBad
		}
		checks(t, "example", r, want)
	}
	r := full()
	r.Most = 999
	checks(t, "full, and the last variable is too great", r, api.ErrBad)
	r.Most = 1001
	checks(t, "full, and one variable more", r, api.ErrMany)
}

// sized returns a raw circuit that defines so many variables, one after the other.
func sized(inputs, latches, ands int) api.Raw {
	r := api.Raw{Most: min(inputs+latches+ands, mostVars)}
	v := 0
	next := func() int {
		// Of more than there may be the last ones are defined again.
		v = min(v+1, mostVars)
		return 2 * v
	}
	for range inputs {
		r.Inputs = append(r.Inputs, next())
	}
	for range latches {
		r.Latches = append(r.Latches, api.Define{Lit: next()})
	}
	for range ands {
		r.Ands = append(r.Ands, api.Define{Lit: next()})
	}
	return r
}

func TestManyDefinitions(t *testing.T) {
	for _, x := range []struct {
		inputs, latches, ands int
		want                  api.Errno
	}{
		{1000, 0, 0, api.OK}, {0, 1000, 0, api.OK}, {0, 0, 1000, api.OK}, {998, 1, 1, api.OK}, {1, 998, 1, api.OK}, {1, 1, 998, api.OK}, {500, 0, 500, api.OK},
		{1001, 0, 0, api.ErrMany}, {0, 1001, 0, api.ErrMany}, {0, 0, 1001, api.ErrMany},
		{1000, 1, 0, api.ErrMany}, {1000, 0, 1, api.ErrMany}, {1, 1000, 0, api.ErrMany}, {0, 1000, 1, api.ErrMany}, {1, 0, 1000, api.ErrMany}, {0, 1, 1000, api.ErrMany},
		{999, 1, 1, api.ErrMany}, {1, 999, 1, api.ErrMany}, {1, 1, 999, api.ErrMany}, {334, 334, 333, api.ErrMany}, {2000, 2000, 2000, api.ErrMany},
	} {
		checks(t, "definitions", sized(x.inputs, x.latches, x.ands), x.want)
	}
}

func TestManyProps(t *testing.T) {
	for _, x := range []struct {
		n    int
		want api.Errno
	}{{0, api.OK}, {99, api.OK}, {100, api.OK}, {101, api.ErrMany}, {102, api.ErrMany}, {1001, api.ErrMany}} {
		checks(t, "bad literals", api.Raw{Bads: make([]int, x.n)}, x.want)
		checks(t, "constraints", api.Raw{Constraints: make([]int, x.n)}, x.want)
		checks(t, "both", api.Raw{Bads: make([]int, x.n), Constraints: make([]int, x.n)}, x.want)
		checks(t, "constraints, and as many bad literals as there may be", api.Raw{Bads: make([]int, 100), Constraints: make([]int, x.n)}, x.want)
	}
	checks(t, "many of the others", sized(101, 101, 101), api.OK)
}

// The places of a raw circuit where a literal is used.
var uses = []struct {
	name string
	put  func(r *api.Raw, l int)
}{
	{"next", func(r *api.Raw, l int) { r.Latches[0].A = l }},
	{"next of the last latch", func(r *api.Raw, l int) { r.Latches[len(r.Latches)-1].A = l }},
	{"first part", func(r *api.Raw, l int) { r.Ands[0].A = l }},
	{"second part", func(r *api.Raw, l int) { r.Ands[0].B = l }},
	{"first part of the last gate", func(r *api.Raw, l int) { r.Ands[len(r.Ands)-1].A = l }},
	{"second part of the last gate", func(r *api.Raw, l int) { r.Ands[len(r.Ands)-1].B = l }},
	{"bad", func(r *api.Raw, l int) { r.Bads[0] = l }},
	{"last bad", func(r *api.Raw, l int) { r.Bads[len(r.Bads)-1] = l }},
	{"constraint", func(r *api.Raw, l int) { r.Constraints[0] = l }},
	{"last constraint", func(r *api.Raw, l int) { r.Constraints[len(r.Constraints)-1] = l }},
}

// The places of a raw circuit where a literal is defined.
var definitions = []struct {
	name string
	put  func(r *api.Raw, l int)
}{
	{"input", func(r *api.Raw, l int) { r.Inputs[0] = l }},
	{"last input", func(r *api.Raw, l int) { r.Inputs[len(r.Inputs)-1] = l }},
	{"latch", func(r *api.Raw, l int) { r.Latches[0].Lit = l }},
	{"last latch", func(r *api.Raw, l int) { r.Latches[len(r.Latches)-1].Lit = l }},
	{"gate", func(r *api.Raw, l int) { r.Ands[0].Lit = l }},
	{"last gate", func(r *api.Raw, l int) { r.Ands[len(r.Ands)-1].Lit = l }},
}

func TestUsedLiterals(t *testing.T) {
	for _, p := range uses {
		// 2 to 7 are inputs and a latch, 0 and 1 constants.
		for l := range 8 {
			r := example()
			p.put(&r, l)
			checks(t, p.name, r, api.OK)
		}
		for _, l := range []int{10, 11} {
			r := example()
			p.put(&r, l)
			checks(t, p.name, r, api.ErrOpen)
		}
		for _, l := range append([]int{14, 15, 16, 1000, 2000, 2001}, farOff...) {
			r := example()
			p.put(&r, l)
			checks(t, p.name, r, api.ErrBad)
		}
		for _, l := range farOff {
			r := full()
			p.put(&r, l)
			checks(t, "full: "+p.name, r, api.ErrBad)
		}
	}
}

func TestDefinedLiterals(t *testing.T) {
	for _, p := range definitions {
		for _, l := range append([]int{0, 1, 3, 5, 7, 9, 11, 13, 14, 15, 16, 1000, 2000, 2001}, farOff...) {
			r := example()
			p.put(&r, l)
			checks(t, p.name, r, api.ErrBad)
		}
		for _, l := range append([]int{0, 1, 3, 1999, 2001}, farOff...) {
			r := full()
			p.put(&r, l)
			checks(t, "full: "+p.name, r, api.ErrBad)
		}
	}
	for l := -2; l < 8; l++ {
		want := api.ErrBad
		if l == 2 || l == 4 {
			want = api.OK
		}
		checks(t, "an input alone", api.Raw{Most: 2, Inputs: []int{l}}, want)
		checks(t, "a latch alone", api.Raw{Most: 2, Latches: []api.Define{{Lit: l}}}, want)
		checks(t, "a gate alone", api.Raw{Most: 2, Ands: []api.Define{{Lit: l}}}, want)
	}
	checks(t, "no variable", api.Raw{Inputs: []int{2}}, api.ErrBad)
}

func TestResets(t *testing.T) {
	for _, reset := range append([]int{-1, 0, 1, 2, 3, 4}, farOff...) {
		want := api.ErrBad
		if 0 <= reset && reset <= 2 {
			want = api.OK
		}
		r := example()
		r.Latches[0].B = reset
		checks(t, "reset", r, want)
		r = full()
		r.Latches[len(r.Latches)-1].B = reset
		checks(t, "reset of the last latch", r, want)
		// A reset is no literal: it need not be one of a variable.
		checks(t, "a latch alone", api.Raw{Most: 1, Latches: []api.Define{{Lit: 2, B: reset}}}, want)
	}
}

func TestDefinedTwice(t *testing.T) {
	for i, p := range definitions {
		for j, q := range definitions {
			if i == j {
				continue
			}
			r := example()
			r.Inputs = []int{2, 20, 6}
			r.Latches = []api.Define{{Lit: 4, A: 13}, {Lit: 22, A: 3}, {Lit: 24}}
			r.Ands = append(r.Ands, api.Define{Lit: 26, A: 8, B: 2})
			r.Most = 20
			checks(t, "before "+p.name+" and "+q.name, r, api.OK)
			p.put(&r, 30)
			q.put(&r, 30)
			checks(t, p.name+" and "+q.name, r, api.ErrTwice)
		}
	}
	checks(t, "the same gate", api.Raw{Most: 1, Ands: []api.Define{{Lit: 2, A: 1, B: 1}, {Lit: 2, A: 1, B: 1}}}, api.ErrTwice)
	checks(t, "the same latch", api.Raw{Most: 1, Latches: []api.Define{{Lit: 2, A: 3}, {Lit: 2, A: 3}}}, api.ErrTwice)
	checks(t, "the last variable", api.Raw{Most: 1000, Inputs: []int{2000}, Latches: []api.Define{{Lit: 2000}}}, api.ErrTwice)
	checks(t, "neighbours", api.Raw{Most: 1000, Inputs: []int{2000}, Latches: []api.Define{{Lit: 1998}}}, api.OK)
}

func TestOpen(t *testing.T) {
	for _, l := range []int{2, 3} {
		checks(t, "bad", api.Raw{Most: 1, Bads: []int{l}}, api.ErrOpen)
		checks(t, "constraint", api.Raw{Most: 1, Constraints: []int{l}}, api.ErrOpen)
		checks(t, "next", api.Raw{Most: 2, Latches: []api.Define{{Lit: 4, A: l}}}, api.ErrOpen)
		checks(t, "first part", api.Raw{Most: 2, Ands: []api.Define{{Lit: 4, A: l}}}, api.ErrOpen)
		checks(t, "second part", api.Raw{Most: 2, Ands: []api.Define{{Lit: 4, B: l}}}, api.ErrOpen)
	}
	checks(t, "the last variable", api.Raw{Most: 1000, Inputs: []int{1998}, Bads: []int{2001}}, api.ErrOpen)
	checks(t, "a variable that is not used", api.Raw{Most: 1000, Inputs: []int{1998}, Bads: []int{1999}}, api.OK)
}

// circle returns so many gates, each of which is a part of the next one, and the last one of the first.
func circle(n int) api.Raw {
	r := api.Raw{Most: mostVars}
	for i := range n {
		r.Ands = append(r.Ands, api.Define{Lit: 2 * (1 + i), A: 2*(1+(i+n-1)%n) + i%2, B: 1})
	}
	return r
}

func TestCircles(t *testing.T) {
	for _, l := range []int{4, 5} {
		checks(t, "the first part is the gate", api.Raw{Most: 2, Inputs: []int{2}, Ands: []api.Define{{Lit: 4, A: l, B: 2}}}, api.ErrCycle)
		checks(t, "the second part is the gate", api.Raw{Most: 2, Inputs: []int{2}, Ands: []api.Define{{Lit: 4, A: 2, B: l}}}, api.ErrCycle)
		checks(t, "both parts are the gate", api.Raw{Most: 2, Ands: []api.Define{{Lit: 4, A: l, B: l}}}, api.ErrCycle)
	}
	for _, n := range []int{1, 2, 3, 4, 10, 999, 1000} {
		r := circle(n)
		checks(t, "a circle", r, api.ErrCycle)
		r.Ands[0].A, r.Ands[0].B = 1, r.Ands[0].A
		checks(t, "a circle through a second part", r, api.ErrCycle)
		r.Ands[0].B = 0
		checks(t, "a chain", r, api.OK)
		slices.Reverse(r.Ands)
		checks(t, "a chain, the last one first", r, api.OK)
	}
	r := circle(3)
	r.Ands = append(r.Ands, api.Define{Lit: 2000, A: 6, B: 1})
	checks(t, "a gate of one in a circle", r, api.ErrCycle)
	r.Ands = append([]api.Define{{Lit: 1998, A: 1, B: 0}}, r.Ands...)
	checks(t, "a gate beside a circle", r, api.ErrCycle)
}

func TestNoCircles(t *testing.T) {
	// Frames come between a latch and what is next.
	checks(t, "through a latch", api.Raw{Most: 2, Latches: []api.Define{{Lit: 2, A: 4}}, Ands: []api.Define{{Lit: 4, A: 2, B: 2}}}, api.OK)
	checks(t, "latches of each other", api.Raw{Most: 2, Latches: []api.Define{{Lit: 2, A: 5}, {Lit: 4, A: 3}}}, api.OK)
	checks(t, "a gate on two ways", api.Raw{Most: 4, Ands: []api.Define{{Lit: 2, A: 4, B: 6}, {Lit: 4, A: 8, B: 9}, {Lit: 6, A: 9, B: 8}, {Lit: 8, A: 1, B: 1}}}, api.OK)
}

// faults in the order in which they are named: an earlier one may undo a later one, as it counts before it.
var faults = []struct {
	name string
	want api.Errno
	put  func(r *api.Raw)
}{
	{"Most below 0", api.ErrBad, func(r *api.Raw) { r.Most = -1 }},
	{"the least Most", api.ErrBad, func(r *api.Raw) { r.Most = math.MinInt }},
	{"Most too great", api.ErrMany, func(r *api.Raw) { r.Most = 1001 }},
	{"too many inputs", api.ErrMany, func(r *api.Raw) { r.Inputs = append(r.Inputs, sized(1000, 0, 0).Inputs...) }},
	{"too many latches", api.ErrMany, func(r *api.Raw) { r.Latches = append(r.Latches, sized(0, 1000, 0).Latches...) }},
	{"too many gates", api.ErrMany, func(r *api.Raw) { r.Ands = append(r.Ands, sized(0, 0, 1000).Ands...) }},
	{"too many bad literals", api.ErrMany, func(r *api.Raw) { r.Bads = append(r.Bads, make([]int, 100)...) }},
	{"too many constraints", api.ErrMany, func(r *api.Raw) { r.Constraints = append(r.Constraints, make([]int, 100)...) }},
	{"an odd input", api.ErrBad, func(r *api.Raw) { r.Inputs = append(r.Inputs, 3) }},
	{"a latch 0", api.ErrBad, func(r *api.Raw) { r.Latches = append(r.Latches, api.Define{}) }},
	{"a part below 0", api.ErrBad, func(r *api.Raw) { r.Ands = append(r.Ands, api.Define{Lit: 10, A: 2, B: -1}) }},
	{"a constraint too great", api.ErrBad, func(r *api.Raw) { r.Constraints = append(r.Constraints, math.MaxInt) }},
	{"a reset", api.ErrBad, func(r *api.Raw) { r.Latches = append(r.Latches, api.Define{Lit: 10, B: 3}) }},
	{"an input twice", api.ErrTwice, func(r *api.Raw) { r.Inputs = append(r.Inputs, 2) }},
	{"a latch and a gate", api.ErrTwice, func(r *api.Raw) { r.Latches = append(r.Latches, api.Define{Lit: 8}) }},
	{"an open next literal", api.ErrOpen, func(r *api.Raw) { r.Latches[0].A = 11 }},
	{"an open bad literal", api.ErrOpen, func(r *api.Raw) { r.Bads[0] = 10 }},
	{"a gate of itself", api.ErrCycle, func(r *api.Raw) { r.Ands[0].A = 12 }},
	{"two gates of each other", api.ErrCycle, func(r *api.Raw) { r.Ands[1].A = 13 }},
}

func TestTheErrorThatIsNamedFirst(t *testing.T) {
	for _, f := range faults {
		r := example()
		f.put(&r)
		checks(t, f.name, r, f.want)
	}
	for i, f := range faults {
		for _, g := range faults[i:] {
			r := example()
			g.put(&r)
			f.put(&r)
			checks(t, f.name+" and "+g.name, r, f.want)
		}
	}
}

func TestAllFaultsAtOnce(t *testing.T) {
	for i := range faults {
		r := example()
		for _, f := range slices.Backward(faults[i:]) {
			f.put(&r)
		}
		checks(t, "from "+faults[i].name+" on", r, faults[i].want)
	}
}

// wantedError is what the definition of the chapter says, for raw circuits that do not have too many of anything.
func wantedError(r api.Raw) api.Errno {
	isLit := func(l int) bool { return 0 <= l && l <= 2*r.Most+1 }
	numbers, parts := true, map[int][]int{}
	times, open := map[int]int{0: 1}, false
	define := func(l int) {
		numbers = numbers && isLit(l) && l >= 2 && l%2 == 0
		times[l/2]++
	}
	for _, l := range r.Inputs {
		define(l)
	}
	used := slices.Concat(r.Bads, r.Constraints)
	for _, d := range r.Latches {
		define(d.Lit)
		numbers = numbers && slices.Contains([]int{0, 1, 2}, d.B)
		used = append(used, d.A)
	}
	for _, d := range r.Ands {
		define(d.Lit)
		used = append(used, d.A, d.B)
		parts[d.Lit/2] = []int{d.A / 2, d.B / 2}
	}
	for _, l := range used {
		numbers = numbers && isLit(l)
		open = open || times[l/2] == 0
	}
	twice := false
	for _, n := range times {
		twice = twice || n > 1
	}
	switch {
	case r.Most < 0 || !numbers:
		return api.ErrBad
	case twice:
		return api.ErrTwice
	case open:
		return api.ErrOpen
	case hasCircle(parts):
		return api.ErrCycle
	}
	return api.OK
}

// hasCircle tells whether a variable is reached from one of its parts.
func hasCircle(parts map[int][]int) bool {
	for v := range parts {
		reached := map[int]bool{}
		todo := slices.Clone(parts[v])
		for len(todo) > 0 {
			w := todo[len(todo)-1]
			todo = todo[:len(todo)-1]
			if !reached[w] {
				reached[w] = true
				todo = append(todo, parts[w]...)
			}
		}
		if reached[v] {
			return true
		}
	}
	return false
}

func TestSmallRawCircuitsAreValidAsDefined(t *testing.T) {
	seen := map[api.Errno]int{}
	for r := range smallRawCircuits() {
		want := wantedError(r)
		seen[want]++
		if e := order.Check(r); e != want {
			t.Fatalf("Check(%+v) = %d; want %d", r, e, want)
		}
		if _, _, e := order.Circuit(r); e != want {
			t.Fatalf("Circuit(%+v): error %d; want %d", r, e, want)
		}
	}
	for _, e := range []api.Errno{api.OK, api.ErrBad, api.ErrTwice, api.ErrOpen, api.ErrCycle} {
		if seen[e] < 500 {
			t.Errorf("%d raw circuits with the error %d", seen[e], e)
		}
	}
}
