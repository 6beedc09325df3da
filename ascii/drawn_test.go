package ascii_test

import (
	"fmt"
	"iter"
	"math/rand"
	"slices"
	"strconv"
	"strings"
	"testing"

	"spiritlevel/api"
	"spiritlevel/ascii"
	"spiritlevel/order"
)

// What the tests have in common: circuits, and texts that are written and read in another way than by the package.

// example has two of each: the inputs 12 and 2, the latches 8 and 4, the gates 14 and 10, the first of which has the second one as a part; the variable 3 is not defined, nor are 8 and 9.
func example() api.Raw {
	return api.Raw{
		Most:        9,
		Inputs:      []int{12, 2},
		Latches:     []api.Define{{Lit: 8, A: 15, B: api.ReAny}, {Lit: 4, A: 0, B: api.ReOne}},
		Ands:        []api.Define{{Lit: 14, A: 3, B: 10}, {Lit: 10, A: 12, B: 9}},
		Bads:        []int{14, 1},
		Constraints: []int{5, 11},
	}
}

// exampleLines are the lines of its text.
func exampleLines() []string {
	return []string{"aag 9 2 2 0 2 2 2", "12", "2", "8 15 8", "4 0 1", "14", "1", "5", "11", "14 3 10", "10 12 9"}
}

// full defines all variables up to 1,000, each gate before its parts, with 100 bad literals and constraints.
func full() api.Raw {
	r := api.Raw{Most: 1000}
	for i := range 300 {
		r.Inputs = append(r.Inputs, 2*(1000-i))
		r.Latches = append(r.Latches, api.Define{Lit: 2 * (401 + i), A: 2001 - i, B: i % 3})
	}
	for i := range 399 {
		r.Ands = append(r.Ands, api.Define{Lit: 2 * (1 + i), A: 2*(2+i) + i%2, B: 2*(401+i) + 1})
	}
	r.Ands = append(r.Ands, api.Define{Lit: 800, A: 2000, B: 802})
	for i := range 100 {
		r.Bads, r.Constraints = append(r.Bads, 2001-7*i), append(r.Constraints, 11*i)
	}
	return r
}

// defined returns a raw circuit with so many inputs, latches and gates of constants, and Most above them.
func defined(inputs, latches, ands, above int) api.Raw {
	r := api.Raw{Most: inputs + latches + ands + above}
	for i := range inputs {
		r.Inputs = append(r.Inputs, 2*(1+i))
	}
	for i := range latches {
		r.Latches = append(r.Latches, api.Define{Lit: 2 * (1 + inputs + i), A: i % 2, B: i % 3})
	}
	for i := range ands {
		r.Ands = append(r.Ands, api.Define{Lit: 2 * (1 + inputs + latches + i), A: i % 2, B: 1})
	}
	return r
}

// drawnRaw returns a valid raw circuit: its variables are numbered in any way, and gates and parts stand in any order.
func drawnRaw(rnd *rand.Rand, size int) api.Raw {
	inputs, latches, ands := rnd.Intn(size+1), rnd.Intn(size+1), rnd.Intn(2*size+1)
	r := api.Raw{Most: inputs + latches + ands + rnd.Intn(3)*rnd.Intn(4)}
	vars := []int{0}
	for _, v := range rnd.Perm(r.Most) {
		vars = append(vars, 1+v)
	}
	lit := func(below int) int { return 2*vars[rnd.Intn(below)] + rnd.Intn(2) }
	last := inputs + latches + ands
	for i := range inputs {
		r.Inputs = append(r.Inputs, 2*vars[1+i])
	}
	for i := range latches {
		r.Latches = append(r.Latches, api.Define{Lit: 2 * vars[1+inputs+i], A: lit(1 + last), B: rnd.Intn(3)})
	}
	for i := range ands {
		own := 1 + inputs + latches + i
		r.Ands = append(r.Ands, api.Define{Lit: 2 * vars[own], A: lit(own), B: lit(own)})
	}
	rnd.Shuffle(ands, func(i, j int) { r.Ands[i], r.Ands[j] = r.Ands[j], r.Ands[i] })
	for range rnd.Intn(4) {
		r.Bads = append(r.Bads, lit(1+last))
	}
	for range rnd.Intn(4) {
		r.Constraints = append(r.Constraints, lit(1+last))
	}
	return r
}

// raws yields valid raw circuits of many sizes, with the least and greatest ones.
func raws() iter.Seq[api.Raw] {
	return func(yield func(api.Raw) bool) {
		rnd := rand.New(rand.NewSource(71))
		for round := range 600 {
			if !yield(drawnRaw(rnd, round/10)) {
				return
			}
		}
		for _, r := range []api.Raw{{}, {Most: 1000}, example(), full(), defined(1000, 0, 0, 0), defined(0, 1000, 0, 0), defined(0, 0, 1000, 0), drawnRaw(rnd, 240)} {
			if !yield(r) {
				return
			}
		}
	}
}

// circuits yields the circuits of the raw ones.
func circuits(t *testing.T) iter.Seq[api.Circuit] {
	return func(yield func(api.Circuit) bool) {
		for r := range raws() {
			c, _, e := order.Circuit(r)
			if e != api.OK {
				t.Fatalf("order.Circuit(%+v): error %d", r, e)
			}
			if !yield(c) {
				return
			}
		}
	}
}

func textOf(t *testing.T, r api.Raw) string {
	t.Helper()
	s, e := ascii.Raw(r)
	if e != api.OK {
		t.Fatalf("Raw(%+v): error %d", r, e)
	}
	return s
}

func linesOf(t *testing.T, r api.Raw) int {
	t.Helper()
	n, e := ascii.Lines(r)
	if e != api.OK {
		t.Fatalf("Lines(%+v): error %d", r, e)
	}
	return n
}

func circuitTextOf(t *testing.T, c api.Circuit) string {
	t.Helper()
	s, e := ascii.Text(c)
	if e != api.OK {
		t.Fatalf("Text(%+v): error %d", c, e)
	}
	return s
}

// wantedText writes the text of a raw circuit as the chapter tells it.
func wantedText(r api.Raw) string {
	var b strings.Builder
	fmt.Fprintln(&b, "aag", r.Most, len(r.Inputs), len(r.Latches), 0, len(r.Ands), len(r.Bads), len(r.Constraints))
	for _, l := range r.Inputs {
		fmt.Fprintln(&b, l)
	}
	for _, d := range r.Latches {
		fmt.Fprintln(&b, []any{d.Lit, d.A, map[int]int{1: 1, 2: d.Lit}[d.B]}[:2+min(1, d.B)]...)
	}
	for _, l := range slices.Concat(r.Bads, r.Constraints) {
		fmt.Fprintln(&b, l)
	}
	for _, d := range r.Ands {
		fmt.Fprintln(&b, d.Lit, d.A, d.B)
	}
	return b.String()
}

// wantedCircuitText writes the text of a circuit, whose variables come one behind the other.
func wantedCircuitText(c api.Circuit) string {
	last := c.Inputs + len(c.Latches) + len(c.Ands)
	lines := []string{fmt.Sprintf("aag %d %d %d 0 %d %d %d", last, c.Inputs, len(c.Latches), len(c.Ands), len(c.Bads), len(c.Constraints))}
	own := 0
	for range c.Inputs {
		own += 2
		lines = append(lines, strconv.Itoa(own))
	}
	for _, l := range c.Latches {
		own += 2
		lines = append(lines, fmt.Sprintf("%d %d%s", own, l.Next, []string{"", " 1", fmt.Sprintf(" %d", own)}[l.Reset]))
	}
	for _, l := range c.Bads {
		lines = append(lines, strconv.Itoa(l))
	}
	for _, l := range c.Constraints {
		lines = append(lines, strconv.Itoa(l))
	}
	for _, g := range c.Ands {
		own += 2
		lines = append(lines, fmt.Sprintf("%d %d %d", own, g.A, g.B))
	}
	return strings.Join(lines, "\n") + "\n"
}

// readBack returns the raw circuit that a text tells: there is one at most.
func readBack(t *testing.T, s string) api.Raw {
	t.Helper()
	var rows [][]int
	for line := range strings.Lines(strings.TrimPrefix(s, "aag ")) {
		var row []int
		for word := range strings.FieldsSeq(line) {
			n, err := strconv.Atoi(word)
			if err != nil {
				t.Fatalf("the text %q has the word %q", s, word)
			}
			row = append(row, n)
		}
		rows = append(rows, row)
	}
	first := rows[0]
	next := func(n int) (part [][]int) {
		rows, part = rows[n:], rows[:n]
		return part
	}
	next(1)
	r := api.Raw{Most: first[0], Inputs: slices.Concat(next(first[1])...)}
	for _, row := range next(first[2]) {
		d := api.Define{Lit: row[0], A: row[1]}
		if len(row) == 3 {
			d.B = map[int]int{1: api.ReOne, row[0]: api.ReAny}[row[2]]
		}
		r.Latches = append(r.Latches, d)
	}
	r.Bads, r.Constraints = slices.Concat(next(first[5])...), slices.Concat(next(first[6])...)
	for _, row := range next(first[4]) {
		r.Ands = append(r.Ands, api.Define{Lit: row[0], A: row[1], B: row[2]})
	}
	return r
}

// same tells whether raw circuits are equal, where nil and empty lists are.
func same(a, b api.Raw) bool {
	return a.Most == b.Most && slices.Equal(a.Inputs, b.Inputs) && slices.Equal(a.Latches, b.Latches) && slices.Equal(a.Ands, b.Ands) && slices.Equal(a.Bads, b.Bads) && slices.Equal(a.Constraints, b.Constraints)
}

func sameCircuit(a, b api.Circuit) bool {
	return a.Inputs == b.Inputs && slices.Equal(a.Latches, b.Latches) && slices.Equal(a.Ands, b.Ands) && slices.Equal(a.Bads, b.Bads) && slices.Equal(a.Constraints, b.Constraints)
}
