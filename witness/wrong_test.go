package witness_test

import (
	"math"
	"math/rand"
	"slices"
	"strings"
	"testing"

	"spiritlevel/api"
	"spiritlevel/gates"
	"spiritlevel/traces"
	"spiritlevel/witness"
)

// Which error comes first: those of circuits, of texts, of runs, of indices, and of what is not shown.

// wrongCircuits are not valid, each with the error that gates.Check returns.
func wrongCircuits() map[api.Errno][]api.Circuit {
	one := []api.Latch{{}}
	return map[api.Errno][]api.Circuit{
		api.ErrBad: {
			{Inputs: -1},
			{Inputs: math.MinInt, Bads: make([]int, 101)},
			{Latches: []api.Latch{{Next: 4}}, Bads: []int{1}},
			{Latches: []api.Latch{{Next: -1}}, Bads: []int{1}},
			{Latches: []api.Latch{{Reset: 3}}, Bads: []int{1}},
			{Latches: []api.Latch{{Reset: -1}}, Bads: []int{1}},
			{Latches: one, Bads: []int{1, 4}},
			{Latches: one, Bads: []int{1, -1}},
			{Latches: one, Bads: []int{1}, Constraints: []int{4}},
			{Inputs: 2, Ands: []api.And{{A: 2, B: 4}}, Bads: []int{1}},
			{Inputs: 2, Ands: []api.And{{A: 6, B: 4}}, Bads: []int{1}},
		},
		api.ErrMany: {
			{Inputs: 1001, Bads: []int{1}},
			{Inputs: math.MaxInt, Latches: one},
			{Inputs: 1, Latches: make([]api.Latch, 1000), Bads: []int{1}},
			{Latches: one, Ands: make([]api.And, 1000)},
			{Bads: slices.Repeat([]int{1}, 101)},
			{Bads: []int{1}, Constraints: slices.Repeat([]int{1}, 101)},
			{Inputs: 1001, Bads: []int{-1}},
		},
	}
}

// indices are some that there may be, and others.
var indices = []int{0, 1, 100, -1, 999_999_999, 1_000_000_000, math.MinInt, math.MaxInt}

func TestTheCircuitComesFirst(t *testing.T) {
	for want, list := range wrongCircuits() {
		for _, c := range list {
			if e := gates.Check(c); e != want {
				t.Fatalf("gates.Check(%s) = %d", short(c), e)
			}
			inputs := make([]bool, min(max(0, c.Inputs), 2000))
			for _, first := range [][]bool{make([]bool, len(c.Latches)), slices.Repeat([]bool{x}, len(c.Latches)), make([]bool, len(c.Latches)+1), nil} {
				for _, frames := range [][][]bool{{inputs}, {inputs, inputs}, nil, {append(slices.Clone(inputs), x)}, slices.Repeat([][]bool{inputs}, 101)} {
					for _, bad := range indices {
						y := shown{c, api.Trace{First: first, Inputs: frames}, bad}
						fails(t, "a circuit", y, want)
						if bad == 0 {
							readFails(t, "a circuit", c, y.text(), want)
						}
					}
				}
			}
			for _, s := range []string{"", "1\n", "1\nb0\n\n\n.\n", "1\nb-1\n\n\n.\n", "1\nb1000000000\n\n\n.\n", exampleText, strings.Repeat("\n", 300)} {
				readFails(t, "a circuit", c, s, want)
			}
			if t.Failed() {
				return
			}
		}
	}
	// A circuit with an error of its own, also if the run has the other one.
	fails(t, "too many inputs, and no frames", shown{c: api.Circuit{Inputs: 1001}}, api.ErrMany)
	fails(t, "a bad literal, and too many frames", shown{c: api.Circuit{Bads: []int{2}}, t: api.Trace{Inputs: make([][]bool, 101)}}, api.ErrBad)
}

// wrongRuns are not right for the tests' example, each with the error that traces.Check returns.
func wrongRuns() map[api.Errno][]api.Trace {
	first, inputs := example().t.First, example().t.Inputs
	return map[api.Errno][]api.Trace{
		api.ErrBad: {
			{},
			{First: first},
			{First: first, Inputs: [][]bool{}},
			{Inputs: inputs},
			{First: []bool{x, x, o}, Inputs: inputs},
			{First: []bool{o, o, o}, Inputs: inputs},
			{First: []bool{o, x}, Inputs: inputs},
			{First: []bool{o, x, o, o}, Inputs: inputs},
			{First: first, Inputs: [][]bool{nil}},
			{First: first, Inputs: [][]bool{{o}}},
			{First: first, Inputs: [][]bool{{o, x, o}}},
			{First: first, Inputs: [][]bool{{o, x}, {o, x, o}}},
			{First: first, Inputs: [][]bool{{o, x, o}, {o, x}}},
			{First: first, Inputs: [][]bool{{o, x, o}, {o}}},
			// Here a constraint fails, too.
			{First: first, Inputs: [][]bool{{x, x}, {o}}},
			{First: []bool{x, o, o}, Inputs: [][]bool{{x, x}}},
			{First: first, Inputs: slices.Repeat([][]bool{{o}}, 100)},
		},
		api.ErrMany: {
			{First: first, Inputs: slices.Repeat([][]bool{{x, o}}, 101)},
			{First: first, Inputs: slices.Repeat([][]bool{{x, x}}, 101)},
			{First: first, Inputs: make([][]bool, 101)},
			{First: []bool{x, o, o}, Inputs: slices.Repeat([][]bool{{x, o}}, 101)},
			{First: nil, Inputs: make([][]bool, 5000)},
		},
	}
}

// Then the run, before the index, and before what it shows.
func TestTheRunComesBeforeTheIndex(t *testing.T) {
	c := example().c
	without := c
	without.Bads = nil
	for want, list := range wrongRuns() {
		for _, run := range list {
			if e := traces.Check(c, run); e != want {
				t.Fatalf("traces.Check(%s) = %d", short(run), e)
			}
			for _, bad := range append([]int{2, 3, 4}, indices...) {
				fails(t, "a run", shown{c, run, bad}, want)
				fails(t, "a run, and no bad literals", shown{without, run, bad}, want)
			}
		}
	}
}

// Then the index, before what the run shows.
func TestTheIndexComesBeforeTheWitness(t *testing.T) {
	for _, z := range []struct {
		inputs [][]bool
		shown  []int
	}{
		{[][]bool{{x, o}, {x, o}, {o, x}}, []int{0, 2}},
		// The gate is true, and then the second latch is false.
		{[][]bool{{x, x}}, nil},
		{[][]bool{{o, o}, {o, o}}, nil},
	} {
		y := example()
		y.t.Inputs = z.inputs
		for y.bad = -2; y.bad < 7; y.bad++ {
			want := api.ErrWitness
			switch {
			case y.bad < 0 || y.bad > 3:
				want = api.ErrArg
			case slices.Contains(z.shown, y.bad):
				want = api.OK
			}
			if e := checksAsWanted(t, "an index", y); e != want {
				t.Errorf("Check(%s) = %d; want %d", short(y), e, want)
			}
		}
		y.c.Bads, y.bad = nil, 0
		fails(t, "no bad literals", y, api.ErrArg)
		readFails(t, "no bad literals", y.c, y.text(), api.ErrArg)
	}
}

// fault makes one thing of the tests' example, or of its text, wrong.
type fault struct {
	name   string
	change func(y *shown, lines []string) []string
	want   api.Errno
}

func inLine(i int, line string) func(y *shown, lines []string) []string {
	return func(_ *shown, lines []string) []string { lines[i] = line; return lines }
}

// faults are those of what Read is called with, in the order of their errors; those of one list come together.
func faults() [][]fault {
	return [][]fault{
		{
			{"Inputs below 0", func(y *shown, lines []string) []string { y.c.Inputs = -1; return lines }, api.ErrBad},
			{"too many inputs", func(y *shown, lines []string) []string { y.c.Inputs = 1001; return lines }, api.ErrMany},
			{"a literal of no variable", func(y *shown, lines []string) []string { y.c.Constraints = []int{14}; return lines }, api.ErrBad},
			{"too many constraints", func(y *shown, lines []string) []string { y.c.Constraints = make([]int, 101); return lines }, api.ErrMany},
		},
		{
			{"another first line", inLine(0, "2"), api.ErrForm},
			{"a blank behind the index", inLine(1, "b2 "), api.ErrForm},
			{"an index of ten digits", inLine(1, "b1000000000"), api.ErrForm},
			{"an index below 0", inLine(1, "b-1"), api.ErrForm},
			{"a short first state", inLine(2, "11"), api.ErrForm},
			{"a long first state", inLine(2, "1100"), api.ErrForm},
			{"another digit", inLine(2, "1x0"), api.ErrForm},
			{"short inputs", inLine(4, "1"), api.ErrForm},
			{"long inputs", inLine(5, "011"), api.ErrForm},
			{"another last line", inLine(6, ".."), api.ErrForm},
			{"a line behind the last one", func(_ *shown, lines []string) []string { return append(lines, "c") }, api.ErrForm},
			{"101 frames", func(_ *shown, lines []string) []string {
				return slices.Insert(lines, 3, slices.Repeat([]string{"10"}, 98)...)
			}, api.ErrForm},
			{"no frames", func(_ *shown, lines []string) []string { return slices.Delete(lines, 3, 6) }, api.ErrForm},
		},
		{
			{"a latch that is true, with ReZero", inLine(2, "110"), api.ErrBad},
			{"a latch that is false, with ReOne", inLine(2, "000"), api.ErrBad},
		},
		{
			{"the index 4", inLine(1, "b4"), api.ErrArg},
			{"the index 999999999", inLine(1, "b999999999"), api.ErrArg},
			{"a circuit without bad literals", func(y *shown, lines []string) []string { y.c.Bads = nil; return lines }, api.ErrArg},
		},
		{
			{"a bad literal that is false", inLine(1, "b1"), api.ErrWitness},
			{"a constraint that fails first", inLine(3, "11"), api.ErrWitness},
			{"a constraint that fails later", inLine(3, "00"), api.ErrWitness},
			{"a constraint that fails in the middle", inLine(4, "11"), api.ErrWitness},
			{"a constraint that fails at last", inLine(5, "11"), api.ErrWitness},
			{"a latch that holds the other value", inLine(2, "011"), api.ErrWitness},
		},
	}
}

// faulty returns the circuit and the text with faults, the first of which is made last, as it may take the place of another one.
func faulty(list ...fault) (api.Circuit, string) {
	y, lines := example(), exampleLines()
	for _, f := range slices.Backward(list) {
		lines = f.change(&y, lines)
	}
	return y.c, joined(lines)
}

func TestFaultsOfTextsAlone(t *testing.T) {
	c, s := faulty()
	if e := readsAsWanted(t, "without any", c, s); e != api.OK {
		t.Errorf("without any fault there is the error %d", e)
	}
	for _, list := range faults() {
		for _, f := range list {
			c, s := faulty(f)
			readFails(t, f.name, c, s, f.want)
			if e := readsAsWanted(t, f.name, c, s); e != f.want {
				t.Errorf("%s: the reader of the tests has the error %d", f.name, e)
			}
		}
	}
}

// Each error comes before those of the lists behind its own.
func TestTheFirstOfTwoFaults(t *testing.T) {
	all := faults()
	for i, list := range all {
		for _, f := range list {
			for _, g := range slices.Concat(all[i+1:]...) {
				c, s := faulty(f, g)
				readFails(t, f.name+" and "+g.name, c, s, f.want)
			}
		}
	}
	for _, z := range []struct {
		name string
		s    string
		want api.Errno
	}{
		{"no first state, and no index", "1\nb4\n110\n10\n.\n", api.ErrBad},
		{"no first state, and not shown", "1\nb1\n110\n11\n.\n", api.ErrBad},
		{"no index, and a constraint that fails", "1\nb4\n010\n11\n.\n", api.ErrArg},
		{"all of them", "1\nb999999999\n100\n11\n.\n", api.ErrBad},
		{"all of them, and no text", "1\nb999999999\n100\n11\n. \n", api.ErrForm},
		{"all of them, and too great an index", "1\nb1000000000\n100\n11\n.\n", api.ErrForm},
	} {
		readFails(t, z.name, example().c, z.s, z.want)
	}
}

// Each of what Check and Write are called with has an error, or not, in all combinations.
func TestCheckWithSeveralFaults(t *testing.T) {
	inputs := example().t.Inputs
	for code := range 5 * 4 * 3 * 3 * 3 {
		y := example()
		digit := func(base int) int {
			d := code % base
			code /= base
			return d
		}
		switch digit(5) {
		case 1:
			y.c.Inputs = -1
		case 2:
			y.c.Inputs = 1001
		case 3:
			y.c.Latches = []api.Latch{{Reset: 3}, {}, {}}
		case 4:
			y.c.Bads = make([]int, 101)
		}
		y.t.First = [][]bool{{o, x, o}, {x, x, o}, {o, x}, nil}[digit(4)]
		y.t.Inputs = [][][]bool{inputs, {{x, o}, {x, x}, {o, x}}, append(slices.Clone(inputs), nil)}[digit(3)]
		if times := digit(3); times > 0 {
			y.t.Inputs = slices.Repeat(y.t.Inputs, []int{0, 33, 34}[times])
		}
		y.bad = []int{2, 1, 4}[digit(3)]
		checksAsWanted(t, "several faults", y)
	}
}

// A run that shows a bad literal becomes wrong in one place.
func TestRunsThatBecomeWrong(t *testing.T) {
	rnd := rand.New(rand.NewSource(119))
	for y := range showns() {
		i := rnd.Intn(len(y.t.Inputs))
		wrong := y
		wrong.t.Inputs = slices.Clone(y.t.Inputs)
		wrong.t.Inputs[i] = append(slices.Clone(y.t.Inputs[i]), x)
		fails(t, "long inputs", wrong, api.ErrBad)
		readFails(t, "long inputs", y.c, wrong.text(), api.ErrForm)
		if y.c.Inputs > 0 {
			wrong.t.Inputs[i] = y.t.Inputs[i][1:]
			fails(t, "short inputs", wrong, api.ErrBad)
			readFails(t, "short inputs", y.c, wrong.text(), api.ErrForm)
		}
		wrong = y
		wrong.t.First = append(slices.Clone(y.t.First), o)
		fails(t, "a long first state", wrong, api.ErrBad)
		readFails(t, "a long first state", y.c, wrong.text(), api.ErrForm)
		if len(y.c.Latches) == 0 {
			continue
		}
		wrong.t.First = y.t.First[1:]
		fails(t, "a short first state", wrong, api.ErrBad)
		readFails(t, "a short first state", y.c, wrong.text(), api.ErrForm)
		i = rnd.Intn(len(y.c.Latches))
		wrong.t.First = slices.Clone(y.t.First)
		wrong.t.First[i] = !y.t.First[i]
		if y.c.Latches[i].Reset != api.ReAny {
			fails(t, "the other value of a latch", wrong, api.ErrBad)
			readFails(t, "the other value of a latch", y.c, wrong.text(), api.ErrBad)
		} else {
			checksAsWanted(t, "the other value of a latch", wrong)
			readsAsWanted(t, "the other value of a latch", y.c, wrong.text())
		}
	}
}

// What Check says of a run is what Read says of its text, if this is one.
func TestReadHasTheErrorOfCheck(t *testing.T) {
	rnd := rand.New(rand.NewSource(120))
	seen := map[api.Errno]int{}
	for y := range showns() {
		for range 10 {
			z := y
			z.bad = []int{y.bad, rnd.Intn(len(y.c.Bads) + 1), 100, 999_999_999}[rnd.Intn(4)]
			z.t.First, z.t.Inputs = slices.Clone(y.t.First), slices.Clone(y.t.Inputs)
			if n := len(z.t.First); n > 0 && rnd.Intn(2) == 0 {
				i := rnd.Intn(n)
				z.t.First[i] = !z.t.First[i]
			}
			z.t.Inputs[rnd.Intn(len(z.t.Inputs))] = bits(rnd, y.c.Inputs)
			e := witness.Check(z.c, z.t, z.bad)
			seen[e]++
			if got := readsAsWanted(t, "a text", z.c, z.text()); got != e {
				t.Fatalf("Check(%s) = %d; the text has the error %d", short(z), e, got)
			}
		}
	}
	for _, e := range []api.Errno{api.OK, api.ErrBad, api.ErrArg, api.ErrWitness} {
		if seen[e] < 100 {
			t.Errorf("the error %d came %d times", e, seen[e])
		}
	}
}
