package witness_test

import (
	"fmt"
	"iter"
	"math/rand"
	"regexp"
	"slices"
	"strconv"
	"strings"
	"testing"

	"spiritlevel/api"
	"spiritlevel/gates"
	"spiritlevel/witness"
)

// What the tests have in common: circuits with runs that show bad literals, and texts that are written, read and checked in another way than by the package.

const (
	o = false
	x = true
)

// shown is a circuit with a run, and the index of a bad literal.
type shown struct {
	c   api.Circuit
	t   api.Trace
	bad int
}

// blink is the circuit of the chapter's section Examples.
func blink() api.Circuit {
	return api.Circuit{Latches: []api.Latch{{Next: 3}}, Bads: []int{2}}
}

// blinks is a run of the circuit blink.
func blinks(frames int) api.Trace {
	return api.Trace{First: []bool{o}, Inputs: make([][]bool, frames)}
}

// example has two inputs, three latches, each with another reset, and a gate of the inputs. The last latch holds its first value, the first one what the gate was before, and the second one what the first input was before.
func example() shown {
	return shown{
		c: api.Circuit{
			Inputs:      2,
			Latches:     []api.Latch{{Next: 12, Reset: api.ReZero}, {Next: 2, Reset: api.ReOne}, {Next: 10, Reset: api.ReAny}},
			Ands:        []api.And{{A: 4, B: 2}},
			Bads:        []int{7, 6, 11, 12},
			Constraints: []int{8, 13},
		},
		t:   api.Trace{First: []bool{o, x, o}, Inputs: [][]bool{{x, o}, {x, o}, {o, x}}},
		bad: 2,
	}
}

const exampleText = "1\nb2\n010\n10\n10\n01\n.\n"

func lastOf(c api.Circuit) int { return c.Inputs + len(c.Latches) + len(c.Ands) }

func bits(rnd *rand.Rand, n int) []bool {
	list := make([]bool, n)
	for i := range list {
		list[i] = rnd.Intn(2) == 0
	}
	return list
}

// framesOf gives the values of all variables in each frame of a right run, as chapters 4 and 6 tell them.
func framesOf(c api.Circuit, t api.Trace) [][]bool {
	var frames [][]bool
	state := t.First
	for _, inputs := range t.Inputs {
		frame := append(append([]bool{o}, inputs...), state...)
		for _, g := range c.Ands {
			frame = append(frame, isTrue(frame, g.A) && isTrue(frame, g.B))
		}
		frames = append(frames, frame)
		state = nil
		for _, l := range c.Latches {
			state = append(state, isTrue(frame, l.Next))
		}
	}
	return frames
}

func isTrue(frame []bool, l int) bool { return frame[l/2] == (l%2 == 0) }

// shows tells whether a right run shows a bad literal.
func (y shown) shows() bool {
	frames := framesOf(y.c, y.t)
	for _, frame := range frames {
		for _, l := range y.c.Constraints {
			if !isTrue(frame, l) {
				return false
			}
		}
	}
	return isTrue(frames[len(frames)-1], y.c.Bads[y.bad])
}

// wanted is what Check says, in the order of the chapters.
func (y shown) wanted() api.Errno {
	if e := gates.Check(y.c); e != api.OK {
		return e
	}
	if len(y.t.Inputs) > 100 {
		return api.ErrMany
	}
	if len(y.t.Inputs) < 1 || len(y.t.First) != len(y.c.Latches) {
		return api.ErrBad
	}
	for i, l := range y.c.Latches {
		if l.Reset == api.ReZero && y.t.First[i] || l.Reset == api.ReOne && !y.t.First[i] {
			return api.ErrBad
		}
	}
	for _, inputs := range y.t.Inputs {
		if len(inputs) != y.c.Inputs {
			return api.ErrBad
		}
	}
	switch {
	case y.bad < 0 || y.bad >= len(y.c.Bads):
		return api.ErrArg
	case !y.shows():
		return api.ErrWitness
	}
	return api.OK
}

// text writes a run and an index as the chapter tells it, whatever they are.
func (y shown) text() string {
	var b strings.Builder
	fmt.Fprintf(&b, "1\nb%d\n", y.bad)
	for _, list := range append([][]bool{y.t.First}, y.t.Inputs...) {
		for _, value := range list {
			fmt.Fprint(&b, map[bool]int{o: 0, x: 1}[value])
		}
		fmt.Fprintln(&b)
	}
	fmt.Fprintln(&b, ".")
	return b.String()
}

// textForm is that of all texts, whatever the circuit is; but rows are not all as long as they have to be, and may be too many.
var textForm = regexp.MustCompile(`\A1\nb(0|[1-9][0-9]{0,8})\n([01]*)\n((?:[01]*\n)+)\.\n\z`)

func valuesOf(row string) []bool {
	var list []bool
	for _, digit := range row {
		list = append(list, digit == '1')
	}
	return list
}

// wantedRead reads a text as the chapter tells it.
func wantedRead(c api.Circuit, s string) (shown, api.Errno) {
	if e := gates.Check(c); e != api.OK {
		return shown{}, e
	}
	parts := textForm.FindStringSubmatch(s)
	if parts == nil || len(parts[2]) != len(c.Latches) || strings.Count(parts[3], "\n") > 100 {
		return shown{}, api.ErrForm
	}
	y := shown{c: c, t: api.Trace{First: valuesOf(parts[2])}}
	for row := range strings.Lines(parts[3]) {
		if len(row) != c.Inputs+1 {
			return shown{}, api.ErrForm
		}
		y.t.Inputs = append(y.t.Inputs, valuesOf(strings.TrimSuffix(row, "\n")))
	}
	bad, err := strconv.Atoi(parts[1])
	if err != nil {
		panic(err)
	}
	y.bad = bad
	if e := y.wanted(); e != api.OK {
		return shown{}, e
	}
	return y, api.OK
}

// drawnRun adds a right run to a circuit.
func drawnRun(rnd *rand.Rand, c api.Circuit, frames int) shown {
	y := shown{c: c, t: api.Trace{First: bits(rnd, len(c.Latches))}}
	for i, l := range c.Latches {
		if l.Reset != api.ReAny {
			y.t.First[i] = l.Reset == api.ReOne
		}
	}
	for range frames {
		y.t.Inputs = append(y.t.Inputs, bits(rnd, c.Inputs))
	}
	return y
}

// drawnCircuit has neither bad literals nor constraints.
func drawnCircuit(rnd *rand.Rand, size int) api.Circuit {
	c := api.Circuit{Inputs: rnd.Intn(size + 1), Latches: make([]api.Latch, rnd.Intn(size+1))}
	for range rnd.Intn(3*size + 1) {
		own := 2 * (1 + lastOf(c))
		a, b := rnd.Intn(own), rnd.Intn(own)
		c.Ands = append(c.Ands, api.And{A: max(a, b), B: min(a, b)})
	}
	for i := range c.Latches {
		c.Latches[i] = api.Latch{Next: rnd.Intn(2*lastOf(c) + 2), Reset: rnd.Intn(3)}
	}
	return c
}

// drawnShown adds bad literals and constraints to a circuit, so that a run of it shows one of them.
func drawnShown(rnd *rand.Rand, c api.Circuit, frames int) shown {
	y := drawnRun(rnd, c, frames)
	all := framesOf(c, y.t)
	last := all[len(all)-1]
	for range 1 + rnd.Intn(4) {
		y.c.Bads = append(y.c.Bads, rnd.Intn(2*len(last)))
	}
	y.bad = rnd.Intn(len(y.c.Bads))
	if !isTrue(last, y.c.Bads[y.bad]) {
		y.c.Bads[y.bad] ^= 1
	}
	for range rnd.Intn(3) {
		l := rnd.Intn(2 * len(last))
		if !slices.ContainsFunc(all, func(frame []bool) bool { return !isTrue(frame, l) }) {
			y.c.Constraints = append(y.c.Constraints, l)
		}
	}
	return y
}

// full has 1,000 variables, and 100 bad literals and constraints; its run has 100 frames.
func full() shown {
	c := api.Circuit{Inputs: 300}
	for i := range 300 {
		c.Latches = append(c.Latches, api.Latch{Next: 2001 - i, Reset: i % 3})
	}
	for i := range 400 {
		c.Ands = append(c.Ands, api.And{A: 2*(601+i) - 1 - i%3, B: 3*i + 1})
	}
	y := drawnRun(rand.New(rand.NewSource(111)), c, 100)
	frames := framesOf(c, y.t)
	for i := range 100 {
		y.c.Bads = append(y.c.Bads, 2001-7*i)
	}
	if !isTrue(frames[99], y.c.Bads[99]) {
		y.c.Bads[99] ^= 1
	}
	y.c.Constraints, y.bad = slices.Repeat([]int{1}, 100), 99
	return y
}

// wide has so many inputs and latches, and a run of so many frames, and always shows its bad literal.
func wide(inputs, latches, frames int) shown {
	c := api.Circuit{Inputs: inputs, Latches: make([]api.Latch, latches), Bads: []int{1}}
	for i := range c.Latches {
		c.Latches[i] = api.Latch{Next: i % 2, Reset: api.ReAny}
	}
	return drawnRun(rand.New(rand.NewSource(112)), c, frames)
}

// edges are runs of the least and the greatest sizes.
func edges() []shown {
	return []shown{
		{c: blink(), t: blinks(2)}, {c: blink(), t: blinks(100)},
		wide(0, 0, 1), wide(0, 0, 2), wide(0, 0, 99), wide(0, 0, 100),
		wide(1, 0, 1), wide(0, 1, 1), wide(1, 1, 100), wide(1000, 0, 1), wide(0, 1000, 1), wide(0, 1000, 100), wide(1000, 0, 100), wide(500, 500, 100),
		example(), full(),
	}
}

// showns yields runs that show a bad literal, of circuits of many sizes.
func showns() iter.Seq[shown] {
	return func(yield func(shown) bool) {
		rnd := rand.New(rand.NewSource(113))
		for round := range 400 {
			c := drawnCircuit(rnd, round/20)
			for _, frames := range []int{1, 2, 3 + rnd.Intn(10)} {
				if !yield(drawnShown(rnd, c, frames)) {
					return
				}
			}
		}
		for _, y := range edges() {
			if !yield(y) {
				return
			}
		}
	}
}

func equalTraces(a, b api.Trace) bool {
	return slices.Equal(a.First, b.First) && slices.EqualFunc(a.Inputs, b.Inputs, slices.Equal[[]bool])
}

// short returns what may be printed of anything.
func short(v any) string {
	s := fmt.Sprintf("%+v", v)
	if text, ok := v.(string); ok {
		s = strconv.Quote(text)
	}
	if len(s) > 600 {
		return s[:600] + ".."
	}
	return s
}

// writes tests that a run shows its bad literal, has this text, and is read from it.
func writes(t *testing.T, name string, y shown, want string) {
	t.Helper()
	if e := witness.Check(y.c, y.t, y.bad); e != api.OK {
		t.Errorf("%s: Check(%s) = %d", name, short(y), e)
	}
	if s, e := witness.Write(y.c, y.t, y.bad); s != want || e != api.OK {
		t.Errorf("%s: Write(%s) = %s, %d; want %s", name, short(y), short(s), e, short(want))
	}
	if run, bad, e := witness.Read(y.c, want); !equalTraces(run, y.t) || bad != y.bad || e != api.OK {
		t.Errorf("%s: Read(%s, %s) = %s, %d, %d; want %s, %d", name, short(y.c), short(want), short(run), bad, e, short(y.t), y.bad)
	}
}

// fails tests that Check and Write return the error, and nothing else.
func fails(t *testing.T, name string, y shown, want api.Errno) {
	t.Helper()
	if e := witness.Check(y.c, y.t, y.bad); e != want {
		t.Errorf("%s: Check(%s) = %d; want error %d", name, short(y), e, want)
	}
	if s, e := witness.Write(y.c, y.t, y.bad); s != "" || e != want {
		t.Errorf("%s: Write(%s) = %s, %d; want error %d", name, short(y), short(s), e, want)
	}
}

// readFails tests that Read returns the error, and nothing else.
func readFails(t *testing.T, name string, c api.Circuit, s string, want api.Errno) {
	t.Helper()
	if run, bad, e := witness.Read(c, s); !equalTraces(run, api.Trace{}) || bad != 0 || e != want {
		t.Errorf("%s: Read(%s, %s) = %s, %d, %d; want error %d", name, short(c), short(s), short(run), bad, e, want)
	}
}

// checksAsWanted tests that a run and an index have the error, or the text, that they should have, and returns the error.
func checksAsWanted(t *testing.T, name string, y shown) api.Errno {
	t.Helper()
	e := y.wanted()
	if e != api.OK {
		fails(t, name, y, e)
	} else {
		writes(t, name, y, y.text())
	}
	return e
}

// readsAsWanted tests that a text is read as by the reader of the tests, and returns the error.
func readsAsWanted(t *testing.T, name string, c api.Circuit, s string) api.Errno {
	t.Helper()
	want, e := wantedRead(c, s)
	if e != api.OK {
		readFails(t, name, c, s, e)
	} else {
		writes(t, name, want, s)
	}
	return e
}
