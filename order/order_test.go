package order_test

import (
	"iter"
	"math"
	"math/rand"
	"reflect"
	"slices"
	"sync"
	"testing"

	"spiritlevel/api"
	"spiritlevel/gates"
	"spiritlevel/order"
)

// smallRawCircuits yields raw circuits with a few variables and numbers around their literals, valid or not.
func smallRawCircuits() iter.Seq[api.Raw] {
	return func(yield func(api.Raw) bool) {
		rnd := rand.New(rand.NewSource(5))
		for range 60000 {
			r := api.Raw{Most: rnd.Intn(6)}
			spread := rnd.Intn(12) // the greater, the more rarely a number is wrong
			number := func() int {
				if rnd.Intn(12) > spread {
					return rnd.Intn(2*r.Most+6) - 2
				}
				return rnd.Intn(2*r.Most + 2)
			}
			vars := rnd.Perm(r.Most)
			define := func() int {
				if len(vars) == 0 || rnd.Intn(12) > spread {
					return number()
				}
				v := vars[0]
				vars = vars[1:]
				return 2 * (1 + v)
			}
			for range min(rnd.Intn(3), r.Most) {
				r.Inputs = append(r.Inputs, define())
			}
			for range min(rnd.Intn(2), len(vars)) {
				r.Latches = append(r.Latches, api.Define{Lit: define(), A: number(), B: rnd.Intn(3)})
			}
			for range min(rnd.Intn(4), len(vars)) {
				r.Ands = append(r.Ands, api.Define{Lit: define(), A: number(), B: number()})
			}
			if rnd.Intn(2) == 0 {
				r.Bads, r.Constraints = append(r.Bads, number()), append(r.Constraints, number())
			}
			if rnd.Intn(30) == 0 {
				r.Most = -1 - rnd.Intn(3)
			}
			if len(r.Latches) > 0 && rnd.Intn(10) == 0 {
				r.Latches[0].B = rnd.Intn(6) - 2
			}
			if !yield(r) {
				return
			}
		}
	}
}

// validCircuits yields valid circuits of many sizes.
func validCircuits() iter.Seq[api.Circuit] {
	return func(yield func(api.Circuit) bool) {
		rnd := rand.New(rand.NewSource(6))
		for round := range 300 {
			size := 1 + round/10
			c := api.Circuit{Inputs: rnd.Intn(size), Latches: make([]api.Latch, rnd.Intn(size))}
			for range rnd.Intn(3 * size) {
				own := 2 * (1 + c.Inputs + len(c.Latches) + len(c.Ands))
				a, b := rnd.Intn(own), rnd.Intn(own)
				if rnd.Intn(2) == 0 {
					a = max(a, own-1-rnd.Intn(4))
				}
				c.Ands = append(c.Ands, api.And{A: max(a, b), B: min(a, b)})
			}
			end := 2 * (lastOf(c) + 1)
			for i := range c.Latches {
				c.Latches[i] = api.Latch{Next: rnd.Intn(end), Reset: rnd.Intn(3)}
			}
			for range rnd.Intn(4) {
				c.Bads = append(c.Bads, rnd.Intn(end))
				c.Constraints = append(c.Constraints, rnd.Intn(end))
			}
			if !yield(c) {
				return
			}
		}
	}
}

func lastOf(c api.Circuit) int { return c.Inputs + len(c.Latches) + len(c.Ands) }

// numbering returns other variables for those from 1 to last: different ones from 1 to most.
func numbering(rnd *rand.Rand, last, most int) []int {
	vars := []int{0}
	for _, v := range rnd.Perm(most)[:last] {
		vars = append(vars, 1+v)
	}
	return vars
}

func numbered(vars []int, l int) int { return 2*vars[l/2] + l%2 }

func allNumbered(vars, list []int) []int {
	var all []int
	for _, l := range list {
		all = append(all, numbered(vars, l))
	}
	return all
}

// renumbered returns the raw circuit with other variables.
func renumbered(r api.Raw, vars []int, most int) api.Raw {
	n := api.Raw{Most: most, Inputs: allNumbered(vars, r.Inputs), Bads: allNumbered(vars, r.Bads), Constraints: allNumbered(vars, r.Constraints)}
	for _, d := range r.Latches {
		n.Latches = append(n.Latches, api.Define{Lit: numbered(vars, d.Lit), A: numbered(vars, d.A), B: d.B})
	}
	for _, d := range r.Ands {
		n.Ands = append(n.Ands, api.Define{Lit: numbered(vars, d.Lit), A: numbered(vars, d.A), B: numbered(vars, d.B)})
	}
	return n
}

// validRawCircuits yields valid raw circuits: those of circuits, numbered otherwise, with gates and parts in any order.
func validRawCircuits(t *testing.T) iter.Seq[api.Raw] {
	return func(yield func(api.Raw) bool) {
		rnd := rand.New(rand.NewSource(7))
		for c := range validCircuits() {
			r := rawOf(t, c)
			most := r.Most + rnd.Intn(10)
			r = renumbered(r, numbering(rnd, r.Most, most), most)
			rnd.Shuffle(len(r.Ands), func(i, j int) { r.Ands[i], r.Ands[j] = r.Ands[j], r.Ands[i] })
			for i, d := range r.Ands {
				if rnd.Intn(2) == 0 {
					r.Ands[i].A, r.Ands[i].B = d.B, d.A
				}
			}
			if !yield(r) {
				return
			}
		}
	}
}

func circuitOf(t *testing.T, r api.Raw) (api.Circuit, []int) {
	t.Helper()
	c, news, e := order.Circuit(r)
	if e != api.OK {
		t.Fatalf("Circuit(%+v): error %d", r, e)
	}
	return c, news
}

func rawOf(t *testing.T, c api.Circuit) api.Raw {
	t.Helper()
	r, e := order.Raw(c)
	if e != api.OK {
		t.Fatalf("Raw(%+v): error %d", c, e)
	}
	return r
}

// sameCircuit tells whether circuits are equal, where nil and empty lists are.
func sameCircuit(a, b api.Circuit) bool {
	return a.Inputs == b.Inputs && slices.Equal(a.Latches, b.Latches) && slices.Equal(a.Ands, b.Ands) && slices.Equal(a.Bads, b.Bads) && slices.Equal(a.Constraints, b.Constraints)
}

func sameRaw(a, b api.Raw) bool {
	return a.Most == b.Most && slices.Equal(a.Inputs, b.Inputs) && slices.Equal(a.Latches, b.Latches) && slices.Equal(a.Ands, b.Ands) && slices.Equal(a.Bads, b.Bads) && slices.Equal(a.Constraints, b.Constraints)
}

// P3.2

func TestCircuitExamples(t *testing.T) {
	for _, x := range []struct {
		name string
		r    api.Raw
		c    api.Circuit
		news []int
	}{
		{"none", api.Raw{}, api.Circuit{}, []int{0}},
		{"nothing defined", api.Raw{Most: 3, Bads: []int{1}, Constraints: []int{0}}, api.Circuit{Bads: []int{1}, Constraints: []int{0}}, []int{0, -1, -1, -1}},
		{
			"of the chapter",
			api.Raw{Most: 4, Inputs: []int{2, 4}, Ands: []api.Define{{Lit: 6, A: 4, B: 8}, {Lit: 8, A: 2, B: 4}}},
			api.Circuit{Inputs: 2, Ands: []api.And{{A: 4, B: 2}, {A: 6, B: 4}}},
			[]int{0, 1, 2, 4, 3},
		},
		{
			"example",
			example(),
			api.Circuit{
				Inputs:      2,
				Latches:     []api.Latch{{Next: 11, Reset: 2}},
				Ands:        []api.And{{A: 7, B: 4}, {A: 8, B: 3}},
				Bads:        []int{10, 1, 9},
				Constraints: []int{0, 5, 8},
			},
			[]int{0, 2, 3, 1, 4, -1, 5},
		},
		{
			"inputs and latches keep their order",
			api.Raw{Most: 5, Inputs: []int{10, 4}, Latches: []api.Define{{Lit: 8, A: 3, B: 1}, {Lit: 2, A: 10, B: 0}}},
			api.Circuit{Inputs: 2, Latches: []api.Latch{{Next: 9, Reset: 1}, {Next: 2, Reset: 0}}},
			[]int{0, 4, 2, -1, 3, 1},
		},
		{
			"parts of one variable and of none",
			api.Raw{Most: 4, Inputs: []int{2}, Ands: []api.Define{{Lit: 8, A: 2, B: 3}, {Lit: 6, A: 3, B: 3}, {Lit: 4, A: 0, B: 1}}},
			api.Circuit{Inputs: 1, Ands: []api.And{{A: 3, B: 2}, {A: 3, B: 3}, {A: 1, B: 0}}},
			[]int{0, 1, 4, 3, 2},
		},
	} {
		c, news := circuitOf(t, x.r)
		if !sameCircuit(c, x.c) || !slices.Equal(news, x.news) {
			t.Errorf("%s: %+v, %v; want %+v, %v", x.name, c, news, x.c, x.news)
		}
	}
}

// The gate that is taken is the first one, not one behind the gate that was taken before, nor one that waits longest.
func TestOrderOfGates(t *testing.T) {
	for _, x := range []struct {
		name string
		ands []api.Define
		want []int
	}{
		{"all can be taken", []api.Define{{Lit: 8}, {Lit: 6}, {Lit: 4}, {Lit: 2}}, []int{8, 6, 4, 2}},
		{"each one waits for the next one", []api.Define{{Lit: 8, A: 6}, {Lit: 6, A: 4}, {Lit: 4, A: 2}, {Lit: 2}}, []int{2, 4, 6, 8}},
		{"back to the first one at once", []api.Define{{Lit: 8, A: 6}, {Lit: 6}, {Lit: 4}, {Lit: 2}}, []int{6, 8, 4, 2}},
		{"back to the first one through the second part", []api.Define{{Lit: 8, B: 7}, {Lit: 6}, {Lit: 4}, {Lit: 2}}, []int{6, 8, 4, 2}},
		{"on, where both parts are needed", []api.Define{{Lit: 8, A: 6, B: 2}, {Lit: 6}, {Lit: 4, A: 6}, {Lit: 2}}, []int{6, 4, 2, 8}},
		{"back twice", []api.Define{{Lit: 8, A: 6}, {Lit: 6, A: 4}, {Lit: 4}, {Lit: 2}}, []int{4, 6, 8, 2}},
		{"the first one of two that wait for the same", []api.Define{{Lit: 8, A: 2}, {Lit: 6, A: 2}, {Lit: 4, A: 8}, {Lit: 2}}, []int{2, 8, 6, 4}},
	} {
		c, news := circuitOf(t, api.Raw{Most: 4, Ands: x.ands})
		var want = []int{0, 0, 0, 0, 0}
		for i, l := range x.want {
			want[l/2] = 1 + i
		}
		if !slices.Equal(news, want) || len(c.Ands) != 4 {
			t.Errorf("%s: the new variables are %v; want %v", x.name, news, want)
		}
	}
}

// takenLits returns the literals of the gates of a valid raw circuit in the order in which they are taken, as it is told in the chapter.
func takenLits(r api.Raw) []int {
	isGate, taken := map[int]bool{}, map[int]bool{}
	for _, d := range r.Ands {
		isGate[d.Lit] = true
	}
	ready := func(l int) bool { return !isGate[l&^1] || taken[l&^1] }
	var order []int
	for len(order) < len(r.Ands) {
		for _, d := range r.Ands {
			if !taken[d.Lit] && ready(d.A) && ready(d.B) {
				taken[d.Lit] = true
				order = append(order, d.Lit)
				break
			}
		}
	}
	return order
}

// wantedCircuit returns what Circuit must return.
func wantedCircuit(r api.Raw) (api.Circuit, []int) {
	news := slices.Repeat([]int{-1}, r.Most+1)
	news[0] = 0
	next := 1
	name := func(l int) {
		news[l/2] = next
		next++
	}
	for _, l := range r.Inputs {
		name(l)
	}
	for _, d := range r.Latches {
		name(d.Lit)
	}
	parts := map[int][]int{}
	for _, d := range r.Ands {
		parts[d.Lit] = []int{d.A, d.B}
	}
	order := takenLits(r)
	for _, l := range order {
		name(l)
	}
	c := api.Circuit{Inputs: len(r.Inputs), Bads: allNumbered(news, r.Bads), Constraints: allNumbered(news, r.Constraints)}
	for _, d := range r.Latches {
		c.Latches = append(c.Latches, api.Latch{Next: numbered(news, d.A), Reset: d.B})
	}
	for _, l := range order {
		p := allNumbered(news, parts[l])
		c.Ands = append(c.Ands, api.And{A: slices.Max(p), B: slices.Min(p)})
	}
	return c, news
}

func TestCircuitsOfAll(t *testing.T) {
	other := 0
	for r := range validRawCircuits(t) {
		c, news := circuitOf(t, r)
		want, vars := wantedCircuit(r)
		if !sameCircuit(c, want) || !slices.Equal(news, vars) {
			t.Fatalf("Circuit(%+v) = %+v, %v; want %+v, %v", r, c, news, want, vars)
		}
		if order := takenLits(r); !slices.EqualFunc(order, r.Ands, func(l int, d api.Define) bool { return l == d.Lit }) {
			other++
		}
	}
	if other < 50 {
		t.Fatalf("in %d raw circuits gates are taken in another order", other)
	}
	for r := range smallRawCircuits() {
		if wantedError(r) != api.OK {
			continue
		}
		c, news := circuitOf(t, r)
		if want, vars := wantedCircuit(r); !sameCircuit(c, want) || !slices.Equal(news, vars) {
			t.Fatalf("Circuit(%+v) = %+v, %v; want %+v, %v", r, c, news, want, vars)
		}
	}
}

func TestCircuitOfFull(t *testing.T) {
	for _, r := range []api.Raw{full(), sized(1000, 0, 0), sized(0, 1000, 0), sized(0, 0, 1000), sized(300, 300, 400)} {
		c, news := circuitOf(t, r)
		if want, vars := wantedCircuit(r); !sameCircuit(c, want) || !slices.Equal(news, vars) {
			t.Errorf("the circuit of %d inputs, %d latches and %d gates is another one", len(r.Inputs), len(r.Latches), len(r.Ands))
		}
	}
	r := api.Raw{Most: 1000}
	for i := range 1000 {
		r.Ands = append(r.Ands, api.Define{Lit: 2000 - 2*i, A: 1, B: max(1, 1999-2*i)})
	}
	c, news := circuitOf(t, r)
	for v := range 1001 {
		if news[v] != v || v > 0 && c.Ands[v-1] != (api.And{A: max(1, 2*v-1), B: 1}) {
			t.Fatalf("in a chain with the last gate first %d has the new variable %d", v, news[v])
		}
	}
}

// P3.3

func TestRawExamples(t *testing.T) {
	for _, x := range []struct {
		c api.Circuit
		r api.Raw
	}{
		{api.Circuit{}, api.Raw{}},
		{api.Circuit{Inputs: 2, Bads: []int{1, 0}}, api.Raw{Most: 2, Inputs: []int{2, 4}, Bads: []int{1, 0}}},
		{
			api.Circuit{Inputs: 2, Latches: []api.Latch{{Next: 13, Reset: 2}, {Next: 6, Reset: 1}}, Ands: []api.And{{A: 6, B: 2}, {A: 11, B: 4}}, Bads: []int{12, 3}, Constraints: []int{3, 0, 9}},
			api.Raw{Most: 6, Inputs: []int{2, 4}, Latches: []api.Define{{Lit: 6, A: 13, B: 2}, {Lit: 8, A: 6, B: 1}}, Ands: []api.Define{{Lit: 10, A: 6, B: 2}, {Lit: 12, A: 11, B: 4}}, Bads: []int{12, 3}, Constraints: []int{3, 0, 9}},
		},
		{api.Circuit{Ands: []api.And{{A: 1, B: 0}}}, api.Raw{Most: 1, Ands: []api.Define{{Lit: 2, A: 1, B: 0}}}},
	} {
		if r := rawOf(t, x.c); !sameRaw(r, x.r) {
			t.Errorf("Raw(%+v) = %+v; want %+v", x.c, r, x.r)
		}
	}
}

func TestRawOfFull(t *testing.T) {
	c, _ := circuitOf(t, full())
	r := rawOf(t, c)
	if r.Most != 1000 || len(r.Inputs) != 300 || r.Inputs[299] != 600 || r.Latches[0].Lit != 602 || r.Ands[399].Lit != 2000 {
		t.Fatalf("Raw of 1,000 variables: %+v", r)
	}
}

func TestRawOfInvalidCircuits(t *testing.T) {
	for _, x := range []struct {
		name string
		c    api.Circuit
		want api.Errno
	}{
		{"Inputs below 0", api.Circuit{Inputs: -1}, api.ErrBad},
		{"the least Inputs", api.Circuit{Inputs: math.MinInt, Bads: make([]int, 101)}, api.ErrBad},
		{"too many inputs", api.Circuit{Inputs: 1001}, api.ErrMany},
		{"the greatest Inputs", api.Circuit{Inputs: math.MaxInt, Latches: make([]api.Latch, 1)}, api.ErrMany},
		{"too many variables", api.Circuit{Inputs: 1000, Ands: make([]api.And, 1)}, api.ErrMany},
		{"too many bad literals", api.Circuit{Bads: make([]int, 101)}, api.ErrMany},
		{"too many constraints", api.Circuit{Constraints: make([]int, 101)}, api.ErrMany},
		{"too many, and a bad literal", api.Circuit{Inputs: 1001, Bads: []int{-1}}, api.ErrMany},
		{"a bad literal", api.Circuit{Bads: []int{2}}, api.ErrBad},
		{"a constraint", api.Circuit{Constraints: []int{-1}}, api.ErrBad},
		{"next", api.Circuit{Latches: []api.Latch{{Next: 4}}}, api.ErrBad},
		{"reset", api.Circuit{Latches: []api.Latch{{Reset: 3}}}, api.ErrBad},
		{"the lesser part first", api.Circuit{Inputs: 2, Ands: []api.And{{A: 2, B: 4}}}, api.ErrBad},
		{"a gate of itself", api.Circuit{Inputs: 2, Ands: []api.And{{A: 6, B: 4}}}, api.ErrBad},
	} {
		if e := gates.Check(x.c); e != x.want {
			t.Fatalf("%s: gates.Check says %d; want %d", x.name, e, x.want)
		}
		if r, e := order.Raw(x.c); !reflect.DeepEqual(r, api.Raw{}) || e != x.want {
			t.Errorf("%s: Raw = %+v, %d; want error %d", x.name, r, e, x.want)
		}
	}
	for c := range validCircuits() {
		for _, l := range []int{-1, 2 * (lastOf(c) + 1), math.MinInt, math.MaxInt} {
			wrong := c
			wrong.Bads = append(slices.Clone(c.Bads), l)
			if r, e := order.Raw(wrong); !reflect.DeepEqual(r, api.Raw{}) || e != api.ErrBad {
				t.Fatalf("Raw(%+v) = %+v, %d; want ErrBad", wrong, r, e)
			}
		}
	}
}

// P3.4

func TestCircuitsOfValidRawOnesAreValid(t *testing.T) {
	for r := range validRawCircuits(t) {
		c, news := circuitOf(t, r)
		if e := gates.Check(c); e != api.OK {
			t.Fatalf("Circuit(%+v) = %+v: gates.Check says %d", r, c, e)
		}
		if c.Inputs != len(r.Inputs) || len(c.Latches) != len(r.Latches) || len(c.Ands) != len(r.Ands) {
			t.Fatalf("Circuit(%+v) = %+v has other numbers", r, c)
		}
		seen := map[int]bool{}
		standsFor := func(kind, l int) {
			v := news[l/2]
			if k, _, e := gates.Kind(c, v); k != kind || e != api.OK || seen[v] {
				t.Fatalf("Circuit(%+v) = %+v, %v: %d is %d, which was there: %t", r, c, news, l, v, seen[v])
			}
			seen[v] = true
		}
		for _, l := range r.Inputs {
			standsFor(1, l)
		}
		for _, d := range r.Latches {
			standsFor(2, d.Lit)
		}
		for _, d := range r.Ands {
			standsFor(3, d.Lit)
		}
		if len(seen) != lastOf(c) {
			t.Fatalf("Circuit(%+v): %d of %d variables stand for one", r, len(seen), lastOf(c))
		}
	}
}

func TestCircuitsAreThoseOfTheirRawOnes(t *testing.T) {
	whole, _ := circuitOf(t, full())
	for _, c := range slices.AppendSeq([]api.Circuit{{}, {Inputs: 1000}, whole}, validCircuits()) {
		r := rawOf(t, c)
		if e := order.Check(r); e != api.OK {
			t.Fatalf("Check(Raw(%+v)) = %d", c, e)
		}
		same, news := circuitOf(t, r)
		if !sameCircuit(c, same) || len(news) != lastOf(c)+1 {
			t.Fatalf("the circuit of the raw one of %+v is %+v, with the variables %v", c, same, news)
		}
		for v, n := range news {
			if v != n {
				t.Fatalf("in the raw circuit of %+v the variable %d becomes %d", c, v, n)
			}
		}
	}
}

func TestTheNumberingDoesNotMatter(t *testing.T) {
	rnd := rand.New(rand.NewSource(8))
	for _, r := range slices.AppendSeq([]api.Raw{{}, example(), full()}, validRawCircuits(t)) {
		c, news := circuitOf(t, r)
		most := min(r.Most+rnd.Intn(5), 1000)
		vars := numbering(rnd, r.Most, most)
		other, others := circuitOf(t, renumbered(r, vars, most))
		if !sameCircuit(c, other) {
			t.Fatalf("Circuit(%+v) = %+v; with the variables %v it is %+v", r, c, vars, other)
		}
		for v, n := range news {
			if others[vars[v]] != n {
				t.Fatalf("Circuit(%+v): %d becomes %d; with the variables %v it is %d", r, v, n, vars, others[vars[v]])
			}
		}
	}
}

// P1: R1 to R7

// roomy returns the list with used memory behind its length.
func roomy[T any](list []T, behind T) []T {
	return append(slices.Clone(list), behind, behind)[:len(list)]
}

func roomyExample() api.Raw {
	r := example()
	r.Inputs, r.Bads, r.Constraints = roomy(r.Inputs, 77), roomy(r.Bads, 77), roomy(r.Constraints, 77)
	r.Latches, r.Ands = roomy(r.Latches, api.Define{Lit: 77, A: 78, B: 79}), roomy(r.Ands, api.Define{Lit: 77, A: 78, B: 79})
	return r
}

// wholeRaw returns the raw circuit with all the memory of its lists.
func wholeRaw(r api.Raw) api.Raw {
	r.Inputs, r.Bads, r.Constraints = slices.Clone(r.Inputs[:cap(r.Inputs)]), slices.Clone(r.Bads[:cap(r.Bads)]), slices.Clone(r.Constraints[:cap(r.Constraints)])
	r.Latches, r.Ands = slices.Clone(r.Latches[:cap(r.Latches)]), slices.Clone(r.Ands[:cap(r.Ands)])
	return r
}

func wholeCircuit(c api.Circuit) api.Circuit {
	c.Latches, c.Ands = slices.Clone(c.Latches[:cap(c.Latches)]), slices.Clone(c.Ands[:cap(c.Ands)])
	c.Bads, c.Constraints = slices.Clone(c.Bads[:cap(c.Bads)]), slices.Clone(c.Constraints[:cap(c.Constraints)])
	return c
}

func TestArgumentsAreOnlyRead(t *testing.T) {
	spoils := []func(r *api.Raw){func(*api.Raw) {}}
	for _, f := range faults {
		spoils = append(spoils, f.put)
	}
	for _, spoil := range spoils {
		r := roomyExample()
		spoil(&r)
		before := wholeRaw(r)
		order.Check(r)
		order.Circuit(r)
		if after := wholeRaw(r); !reflect.DeepEqual(before, after) {
			t.Fatalf("the raw circuit %+v became %+v", before, after)
		}
	}
	c, _ := circuitOf(t, example())
	c.Latches, c.Ands = roomy(c.Latches, api.Latch{Next: 77, Reset: 7}), roomy(c.Ands, api.And{A: 77, B: 78})
	c.Bads, c.Constraints = roomy(c.Bads, 77), roomy(c.Constraints, 77)
	for _, inputs := range []int{2, -1, 1001} {
		c.Inputs = inputs
		before := wholeCircuit(c)
		order.Raw(c)
		if after := wholeCircuit(c); !reflect.DeepEqual(before, after) {
			t.Fatalf("the circuit %+v became %+v", before, after)
		}
	}
}

// spoil changes all numbers of a list, and of the memory behind it.
func spoil[T any](list []T) {
	clear(list[:cap(list)])
}

func TestCircuitsShareNoMemory(t *testing.T) {
	r := roomyExample()
	before := wholeRaw(r)
	want, vars := wantedCircuit(r)
	kept, keptVars := circuitOf(t, r)
	for i := range 5 {
		c, news := circuitOf(t, r)
		lists := []func(){func() { spoil(c.Latches) }, func() { spoil(c.Ands) }, func() { spoil(c.Bads) }, func() { spoil(c.Constraints) }, func() { spoil(news) }}
		lists[i]()
		for j, same := range []bool{slices.Equal(c.Latches, want.Latches), slices.Equal(c.Ands, want.Ands), slices.Equal(c.Bads, want.Bads), slices.Equal(c.Constraints, want.Constraints), slices.Equal(news, vars)} {
			if same == (i == j) {
				t.Errorf("after the list %d was changed, %d is as it was: %t", i, j, same)
			}
		}
	}
	if !sameCircuit(kept, want) || !slices.Equal(keptVars, vars) || !reflect.DeepEqual(before, wholeRaw(r)) {
		t.Errorf("after results were changed, others are %+v, %v, and the argument %+v", kept, keptVars, r)
	}
}

func TestRawCircuitsShareNoMemory(t *testing.T) {
	c, _ := circuitOf(t, example())
	c.Bads, c.Constraints = roomy(c.Bads, 77), roomy(c.Constraints, 77)
	before := wholeCircuit(c)
	kept, want := rawOf(t, c), rawOf(t, c)
	for i := range 5 {
		r := rawOf(t, c)
		lists := []func(){func() { spoil(r.Inputs) }, func() { spoil(r.Latches) }, func() { spoil(r.Ands) }, func() { spoil(r.Bads) }, func() { spoil(r.Constraints) }}
		lists[i]()
		for j, same := range []bool{slices.Equal(r.Inputs, want.Inputs), slices.Equal(r.Latches, want.Latches), slices.Equal(r.Ands, want.Ands), slices.Equal(r.Bads, want.Bads), slices.Equal(r.Constraints, want.Constraints)} {
			if same == (i == j) {
				t.Errorf("after the list %d was changed, %d is as it was: %t", i, j, same)
			}
		}
	}
	if !sameRaw(kept, want) || !reflect.DeepEqual(before, wholeCircuit(c)) {
		t.Errorf("after results were changed, another one is %+v, and the argument %+v", kept, c)
	}
}

func TestNilAndEmptyListsAreEqual(t *testing.T) {
	for _, r := range []api.Raw{{Most: 1}, {Most: 1, Inputs: []int{}, Latches: []api.Define{}, Ands: []api.Define{}, Bads: []int{}, Constraints: []int{}}} {
		checks(t, "nothing defined", r, api.OK)
		if c, news := circuitOf(t, r); !sameCircuit(c, api.Circuit{}) || !slices.Equal(news, []int{0, -1}) {
			t.Errorf("Circuit = %+v, %v", c, news)
		}
	}
	for _, c := range []api.Circuit{{Inputs: 1}, {Inputs: 1, Latches: []api.Latch{}, Ands: []api.And{}, Bads: []int{}, Constraints: []int{}}} {
		if r := rawOf(t, c); !sameRaw(r, api.Raw{Most: 1, Inputs: []int{2}}) {
			t.Errorf("Raw = %+v", r)
		}
	}
}

func TestNothingPanics(t *testing.T) {
	numbers := append([]int{0, 1, 2, 3, 4, 1000, 2000, 2001}, farOff...)
	rnd := rand.New(rand.NewSource(9))
	pick := func() int { return numbers[rnd.Intn(len(numbers))] }
	for range 20000 {
		r := api.Raw{Most: pick(), Inputs: make([]int, rnd.Intn(3)), Latches: make([]api.Define, rnd.Intn(3)), Ands: make([]api.Define, rnd.Intn(3)), Bads: []int{pick()}, Constraints: []int{pick()}}
		for i := range r.Inputs {
			r.Inputs[i] = pick()
		}
		for i := range r.Latches {
			r.Latches[i] = api.Define{Lit: pick(), A: pick(), B: pick()}
		}
		for i := range r.Ands {
			r.Ands[i] = api.Define{Lit: pick(), A: pick(), B: pick()}
		}
		e := order.Check(r)
		if _, _, f := order.Circuit(r); e != f {
			t.Fatalf("of %+v Check says %d, and Circuit %d", r, e, f)
		}
		order.Raw(api.Circuit{Inputs: pick(), Latches: []api.Latch{{Next: pick(), Reset: pick()}}, Ands: []api.And{{A: pick(), B: pick()}}, Bads: r.Bads, Constraints: r.Constraints})
	}
}

// Calls at the same time have results of their own.
func TestNothingIsKept(t *testing.T) {
	var group sync.WaitGroup
	for range 4 {
		for r := range validRawCircuits(t) {
			want, vars := wantedCircuit(r)
			group.Add(1)
			go func() {
				defer group.Done()
				c, news, e := order.Circuit(r)
				order.Circuit(example())
				if !sameCircuit(c, want) || !slices.Equal(news, vars) || e != api.OK {
					t.Errorf("Circuit(%+v) = %+v, %v, %d; want %+v, %v", r, c, news, e, want, vars)
				}
			}()
		}
	}
	group.Wait()
}
