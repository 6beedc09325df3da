package ascii_test

import (
	"iter"
	"regexp"
	"slices"
	"strings"
	"testing"

	"spiritlevel/api"
	"spiritlevel/ascii"
	"spiritlevel/order"
)

// P7.3

// apart tests that raw circuits that differ have texts that differ, by those that it has seen.
type apart map[string]api.Raw

func (known apart) add(t *testing.T, r api.Raw) {
	t.Helper()
	s := textOf(t, r)
	if other, is := known[s]; is && !same(r, other) {
		t.Fatalf("%+v and %+v have the text %q", other, r, s)
	}
	known[s] = r
}

// cloned returns a copy of all the lists.
func cloned(r api.Raw) api.Raw {
	r.Inputs, r.Latches, r.Ands = slices.Clone(r.Inputs), slices.Clone(r.Latches), slices.Clone(r.Ands)
	r.Bads, r.Constraints = slices.Clone(r.Bads), slices.Clone(r.Constraints)
	return r
}

// places are all numbers of a raw circuit.
func places(r *api.Raw) []*int {
	all := []*int{&r.Most}
	for _, list := range [][]int{r.Inputs, r.Bads, r.Constraints} {
		for i := range list {
			all = append(all, &list[i])
		}
	}
	for _, list := range [][]api.Define{r.Latches, r.Ands} {
		for i := range list {
			all = append(all, &list[i].Lit, &list[i].A, &list[i].B)
		}
	}
	return all
}

// inOneNumber yields what differs from the raw circuit in one number.
func inOneNumber(r api.Raw) iter.Seq[api.Raw] {
	return func(yield func(api.Raw) bool) {
		for i, p := range places(&r) {
			for _, n := range []int{*p + 1, *p - 1, *p + 2, *p - 2, *p + 10, 10 * *p, *p / 10, 0, 1, 2, r.Most, 2 * r.Most, 2*r.Most + 1, 1000} {
				other := cloned(r)
				*places(&other)[i] = n
				if n != *p && !yield(other) {
					return
				}
			}
		}
	}
}

// inOneOrder yields what differs from the raw circuit in the order of two numbers, or two things of a list.
func inOneOrder(r api.Raw) iter.Seq[api.Raw] {
	return func(yield func(api.Raw) bool) {
		all := places(&r)
		for i, p := range all {
			for j, q := range all[:i] {
				other := cloned(r)
				others := places(&other)
				*others[i], *others[j] = *q, *p
				if !same(r, other) && !yield(other) {
					return
				}
			}
		}
		for _, lists := range []func(r api.Raw) []api.Define{func(r api.Raw) []api.Define { return r.Latches }, func(r api.Raw) []api.Define { return r.Ands }} {
			for i := range lists(r) {
				for j := range i {
					other := cloned(r)
					list := lists(other)
					list[i], list[j] = list[j], list[i]
					if !yield(other) {
						return
					}
				}
			}
		}
	}
}

// inOneThing yields what has a thing less, or in another list, if there is one in each list.
func inOneThing(r api.Raw) iter.Seq[api.Raw] {
	return func(yield func(api.Raw) bool) {
		if !hasOneOfEach(r) {
			return
		}
		for _, change := range []func(r *api.Raw){
			func(r *api.Raw) { r.Bads, r.Constraints = r.Constraints, r.Bads },
			func(r *api.Raw) { r.Bads, r.Constraints = append(r.Bads, r.Constraints[0]), r.Constraints[1:] },
			func(r *api.Raw) { r.Bads, r.Constraints = r.Bads[1:], append(r.Constraints, r.Bads[0]) },
			func(r *api.Raw) { r.Bads = r.Bads[1:] },
			func(r *api.Raw) { r.Constraints = r.Constraints[1:] },
			func(r *api.Raw) { r.Bads = append(r.Bads, r.Bads[0]) },
			func(r *api.Raw) { r.Inputs, r.Latches = r.Inputs[1:], append(r.Latches, api.Define{Lit: r.Inputs[0]}) },
			func(r *api.Raw) { r.Inputs, r.Ands = r.Inputs[1:], append(r.Ands, api.Define{Lit: r.Inputs[0]}) },
			func(r *api.Raw) { r.Latches, r.Ands = r.Latches[1:], append(r.Ands, r.Latches[0]) },
			func(r *api.Raw) { r.Latches, r.Ands = append(r.Latches, r.Ands[0]), r.Ands[1:] },
			func(r *api.Raw) { r.Latches, r.Inputs = r.Latches[1:], append(r.Inputs, r.Latches[0].Lit) },
			func(r *api.Raw) { r.Latches, r.Ands = nil, append(r.Ands, r.Latches...) },
		} {
			other := cloned(r)
			change(&other)
			if !yield(other) {
				return
			}
		}
	}
}

func hasOneOfEach(r api.Raw) bool {
	return min(len(r.Inputs), len(r.Latches), len(r.Ands), len(r.Bads), len(r.Constraints)) > 0
}

func TestNearRawCircuitsHaveDifferentTexts(t *testing.T) {
	known, seen := apart{}, map[string]int{}
	small := []api.Raw{example()}
	for r := range raws() {
		if len(r.Inputs)+len(r.Latches)+len(r.Ands) < 14 {
			small = append(small, r)
		}
	}
	for _, r := range small {
		known.add(t, r)
		s := textOf(t, r)
		for how, near := range map[string]iter.Seq[api.Raw]{"number": inOneNumber(r), "order": inOneOrder(r), "thing": inOneThing(r)} {
			for other := range near {
				if order.Check(other) != api.OK || same(r, other) {
					continue
				}
				seen[how]++
				if textOf(t, other) == s {
					t.Fatalf("%+v and %+v, which differ in one %s, have the text %q", r, other, how, s)
				}
				known.add(t, other)
			}
		}
	}
	if seen["number"] < 2000 || seen["order"] < 2000 || seen["thing"] < 100 {
		t.Fatalf("so many raw circuits differ: %v", seen)
	}
}

// Pairs that differ in just what is told of them.
func TestPairsHaveDifferentTexts(t *testing.T) {
	differ := func(name string, a, b api.Raw) {
		t.Helper()
		if s := textOf(t, a); s == textOf(t, b) || same(a, b) {
			t.Errorf("raw circuits that differ in %s have the text %q", name, s)
		}
	}
	alone := func(l int) (input, latch, gate api.Raw) {
		return api.Raw{Most: 2, Inputs: []int{l}}, api.Raw{Most: 2, Latches: []api.Define{{Lit: l}}}, api.Raw{Most: 2, Ands: []api.Define{{Lit: l}}}
	}
	input, latch, gate := alone(2)
	otherInput, otherLatch, otherGate := alone(4)
	differ("the literal of an input", input, otherInput)
	differ("the literal of a latch", latch, otherLatch)
	differ("the literal of a gate", gate, otherGate)
	for name, change := range map[string]func(r *api.Raw){
		"Most":                      func(r *api.Raw) { r.Most = 10 },
		"a next literal":            func(r *api.Raw) { r.Latches[0].A = 14 },
		"ReAny to ReOne":            func(r *api.Raw) { r.Latches[0].B = api.ReOne },
		"ReAny to ReZero":           func(r *api.Raw) { r.Latches[0].B = api.ReZero },
		"ReOne to ReAny":            func(r *api.Raw) { r.Latches[1].B = api.ReAny },
		"ReOne to ReZero":           func(r *api.Raw) { r.Latches[1].B = api.ReZero },
		"a bad literal":             func(r *api.Raw) { r.Bads[1] = 0 },
		"a constraint":              func(r *api.Raw) { r.Constraints[1] = 10 },
		"the first part":            func(r *api.Raw) { r.Ands[0].A = 2 },
		"the second part":           func(r *api.Raw) { r.Ands[0].B = 11 },
		"the order of inputs":       func(r *api.Raw) { slices.Reverse(r.Inputs) },
		"the order of latches":      func(r *api.Raw) { slices.Reverse(r.Latches) },
		"the order of gates":        func(r *api.Raw) { slices.Reverse(r.Ands) },
		"the order of bad literals": func(r *api.Raw) { slices.Reverse(r.Bads) },
		"the order of constraints":  func(r *api.Raw) { slices.Reverse(r.Constraints) },
		"the order of parts":        func(r *api.Raw) { r.Ands[0].A, r.Ands[0].B = r.Ands[0].B, r.Ands[0].A },
		"what is bad":               func(r *api.Raw) { r.Bads, r.Constraints = r.Constraints, r.Bads },
		"how many are bad":          func(r *api.Raw) { r.Bads, r.Constraints = append(r.Bads, r.Constraints[0]), r.Constraints[1:] },
	} {
		other := example()
		change(&other)
		differ(name, example(), other)
	}
}

// rows returns all lists of at most two of some things, and at most so many.
func rows[T any](things []T, most int) [][]T {
	all := [][]T{nil}
	for _, a := range things {
		if most > 0 {
			all = append(all, []T{a})
		}
		for _, b := range things {
			if most > 1 {
				all = append(all, []T{a, b})
			}
		}
	}
	return all
}

// defines returns all definitions of variables up to most, whose last number is less than so many.
func defines(most, lasts int) []api.Define {
	var all []api.Define
	for v := range most {
		for a := range 2*most + 2 {
			for b := range lasts {
				all = append(all, api.Define{Lit: 2 * (1 + v), A: a, B: b})
			}
		}
	}
	return all
}

func literals(most int) []int {
	var all []int
	for l := range 2*most + 2 {
		all = append(all, l)
	}
	return all
}

// smallOnes yields all valid raw circuits with variables up to two, and at most two bad literals and constraints together; where two variables are defined, these are but some.
func smallOnes() iter.Seq[api.Raw] {
	return func(yield func(api.Raw) bool) {
		for most := range 3 {
			for _, inputs := range rows(literals(most), most) {
				for _, latches := range rows(defines(most, 3), most-len(inputs)) {
					for _, ands := range rows(defines(most, 2*most+2), most-len(inputs)-len(latches)) {
						r := api.Raw{Most: most, Inputs: inputs, Latches: latches, Ands: ands}
						if !withProps(r, yield) {
							return
						}
					}
				}
			}
		}
	}
}

// withProps yields the raw circuit with bad literals and constraints, where it is valid.
func withProps(r api.Raw, yield func(api.Raw) bool) bool {
	all := rows(literals(r.Most), 2)
	if len(r.Inputs)+len(r.Latches)+len(r.Ands) == 2 {
		all = [][]int{nil, {0}, {5}}
	}
	for _, bads := range all {
		for _, constraints := range all {
			r.Bads, r.Constraints = bads, constraints
			if len(bads)+len(constraints) <= 2 && order.Check(r) == api.OK && !yield(r) {
				return false
			}
		}
	}
	return true
}

func TestSmallRawCircuitsHaveDifferentTexts(t *testing.T) {
	known, n := apart{}, 0
	for r := range smallOnes() {
		known.add(t, r)
		n++
	}
	// Each of them came once.
	if len(known) != n || n < 10000 {
		t.Fatalf("%d raw circuits have %d texts", n, len(known))
	}
}

// A raw circuit is told by its text.
func TestTextsAreReadBack(t *testing.T) {
	for r := range raws() {
		if back := readBack(t, textOf(t, r)); !same(r, back) {
			t.Fatalf("the text of %+v is that of %+v", r, back)
		}
	}
	for c := range circuits(t) {
		back, _, e := order.Circuit(readBack(t, circuitTextOf(t, c)))
		if e != api.OK || !sameCircuit(c, back) {
			t.Fatalf("the text of %+v is that of %+v, %d", c, back, e)
		}
	}
}

// hasForm tests the lines of a text: there are so many, each with a line feed behind it, and one blank between any two things.
func hasForm(t *testing.T, s string, lines int) {
	t.Helper()
	if strings.Count(s, "\n") != lines || !strings.HasSuffix(s, "\n") {
		t.Fatalf("the text %q has not %d lines", s, lines)
	}
	for line := range strings.SplitSeq(strings.TrimSuffix(s, "\n"), "\n") {
		if line == "" || strings.HasPrefix(line, " ") || strings.HasSuffix(line, " ") || strings.Contains(line, "  ") {
			t.Fatalf("the text %q has the line %q", s, line)
		}
	}
	if !asTold.MatchString(s) {
		t.Fatalf("the text %q has things that are no numbers", s)
	}
}

// asTold fits a first line of seven numbers, and lines of one to three numbers, none of which has a zero in front.
var asTold = regexp.MustCompile(`^aag( (0|[1-9]\d*)){7}\n((0|[1-9]\d*)( (0|[1-9]\d*)){0,2}\n)*$`)

func TestLinesOfTexts(t *testing.T) {
	for r := range raws() {
		n := linesOf(t, r)
		hasForm(t, textOf(t, r), n)
		if want := 1 + len(r.Inputs) + len(r.Latches) + len(r.Ands) + len(r.Bads) + len(r.Constraints); n != want {
			t.Fatalf("Lines(%+v) = %d; want %d", r, n, want)
		}
	}
	for c := range circuits(t) {
		hasForm(t, circuitTextOf(t, c), 1+c.Inputs+len(c.Latches)+len(c.Ands)+len(c.Bads)+len(c.Constraints))
	}
}

func TestACircuitHasTheTextOfItsRawCircuit(t *testing.T) {
	for c := range circuits(t) {
		r, e := order.Raw(c)
		if e != api.OK {
			t.Fatalf("order.Raw(%+v): error %d", c, e)
		}
		s, d := ascii.Raw(r)
		if text := circuitTextOf(t, c); text != s || d != api.OK {
			t.Fatalf("Text(%+v) = %q; that of its raw circuit is %q, %d", c, text, s, d)
		}
		hasForm(t, s, linesOf(t, r))
	}
}

// The circuit of a raw circuit has a text of its own, unless they are numbered and ordered alike.
func TestTheCircuitOfARawCircuitMayHaveAnotherText(t *testing.T) {
	r := example()
	c, _, _ := order.Circuit(r)
	if s := circuitTextOf(t, c); s == textOf(t, r) || !strings.HasPrefix(s, "aag 6 2 2 0 2 2 2\n2\n4\n6 13 6\n8 0 1\n") {
		t.Errorf("Text = %q", s)
	}
}
