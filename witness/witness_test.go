package witness_test

import (
	"fmt"
	"math"
	"math/rand"
	"slices"
	"strings"
	"testing"

	"spiritlevel/api"
	"spiritlevel/traces"
	"spiritlevel/witness"
)

// P11.1 and P11.3: what runs show, what is written, and that it is read as this. Texts that are none are in lines_test.go, which error comes first is in wrong_test.go.

func TestExampleOfTheChapter(t *testing.T) {
	writes(t, "the chapter's run", shown{c: blink(), t: blinks(2)}, "1\nb0\n0\n\n\n.\n")
	fails(t, "one frame", shown{c: blink(), t: blinks(1)}, api.ErrWitness)
	fails(t, "three frames", shown{c: blink(), t: blinks(3)}, api.ErrWitness)
	fails(t, "another bad literal", shown{c: blink(), t: blinks(2), bad: 1}, api.ErrArg)
}

// byHand are runs and their texts, as the chapter tells them.
var byHand = []struct {
	name string
	y    shown
	s    string
}{
	{"nothing but a bad literal", shown{c: api.Circuit{Bads: []int{1}}, t: api.Trace{Inputs: make([][]bool, 1)}}, "1\nb0\n\n\n.\n"},
	{"the same, in three frames", shown{c: api.Circuit{Bads: []int{1}}, t: api.Trace{Inputs: make([][]bool, 3)}}, "1\nb0\n\n\n\n\n.\n"},
	{"an input", shown{c: api.Circuit{Inputs: 1, Bads: []int{3}}, t: api.Trace{Inputs: [][]bool{{o}}}}, "1\nb0\n\n0\n.\n"},
	{"an input that is true", shown{c: api.Circuit{Inputs: 1, Bads: []int{2}}, t: api.Trace{Inputs: [][]bool{{o}, {x}}}}, "1\nb0\n\n0\n1\n.\n"},
	{"a latch that is false", shown{c: api.Circuit{Latches: []api.Latch{{}}, Bads: []int{3}}, t: api.Trace{First: []bool{o}, Inputs: make([][]bool, 1)}}, "1\nb0\n0\n\n.\n"},
	{"a latch that is true", shown{c: api.Circuit{Latches: []api.Latch{{Reset: api.ReOne}}, Bads: []int{2}}, t: api.Trace{First: []bool{x}, Inputs: make([][]bool, 1)}}, "1\nb0\n1\n\n.\n"},
	{"latches with any first value", shown{c: api.Circuit{Latches: []api.Latch{{Reset: api.ReAny}, {Reset: api.ReAny}}, Bads: []int{3}}, t: api.Trace{First: []bool{o, x}, Inputs: make([][]bool, 1)}}, "1\nb0\n01\n\n.\n"},
	{"inputs in order", shown{c: api.Circuit{Inputs: 3, Bads: []int{1, 6, 7}}, t: api.Trace{Inputs: [][]bool{{x, o, o}, {o, x, o}, {o, o, x}}}, bad: 1}, "1\nb1\n\n100\n010\n001\n.\n"},
	{"three of each", example(), exampleText},
	{"the index 10", shown{c: api.Circuit{Bads: slices.Repeat([]int{1}, 11)}, t: api.Trace{Inputs: make([][]bool, 1)}, bad: 10}, "1\nb10\n\n\n.\n"},
	{"the index 99", shown{c: api.Circuit{Bads: slices.Repeat([]int{1}, 100)}, t: api.Trace{Inputs: make([][]bool, 1)}, bad: 99}, "1\nb99\n\n\n.\n"},
}

func TestTextsByHand(t *testing.T) {
	for _, z := range byHand {
		writes(t, z.name, z.y, z.s)
	}
}

func TestRunsThatShowABadLiteral(t *testing.T) {
	for y := range showns() {
		writes(t, "a run", y, y.text())
		if t.Failed() {
			return
		}
	}
}

// Each number of frames that a run may have.
func TestNumbersOfFrames(t *testing.T) {
	for n := range 130 {
		// The latch is false in the first frame, then true, and so on.
		want := api.ErrWitness
		switch {
		case n == 0:
			want = api.ErrBad
		case n > 100:
			want = api.ErrMany
		case n%2 == 0:
			want = api.OK
		}
		if e := checksAsWanted(t, "blinks", shown{c: blink(), t: blinks(n)}); e != want {
			t.Errorf("%d frames have the error %d; want %d", n, e, want)
		}
		y := shown{c: api.Circuit{Inputs: 1, Bads: []int{1}}, t: api.Trace{Inputs: slices.Repeat([][]bool{{x}}, n)}}
		if n > 0 && n <= 100 {
			writes(t, "an input in each frame", y, "1\nb0\n\n"+strings.Repeat("1\n", n)+".\n")
		} else {
			fails(t, "an input in each frame", y, want)
		}
	}
}

// All indices, of which some bad literals are true in the last frame, and others only before.
func TestEachIndex(t *testing.T) {
	rnd := rand.New(rand.NewSource(114))
	for _, n := range []int{0, 1, 2, 9, 10, 11, 99, 100} {
		y := shown{c: api.Circuit{Inputs: 2}}
		for range n {
			y.c.Bads = append(y.c.Bads, rnd.Intn(6))
		}
		for _, inputs := range [][]bool{{o, o}, {o, x}, {x, o}, {x, x}} {
			y.t = api.Trace{Inputs: [][]bool{{x, x}, {o, o}, inputs}}
			for i := range 103 {
				y.bad = i - 1
				want := api.ErrArg
				if i > 0 && i <= n {
					want = api.ErrWitness
					if isTrue(append([]bool{o}, inputs...), y.c.Bads[i-1]) {
						want = api.OK
					}
				}
				if e := checksAsWanted(t, "an index", y); e != want {
					t.Errorf("the index %d of %v, with %v at last, has the error %d; want %d", i-1, y.c.Bads, inputs, e, want)
				}
			}
		}
	}
}

func TestIndicesThatThereAreNot(t *testing.T) {
	for _, y := range []shown{{c: blink(), t: blinks(2)}, {c: blink(), t: blinks(1)}, example(), {c: api.Circuit{Inputs: 1}, t: api.Trace{Inputs: [][]bool{{o}}}}, full()} {
		n := len(y.c.Bads)
		for _, bad := range []int{-1, -2, -n, -n - 1, n, n + 1, n + 100, 100, 999_999_999, 1_000_000_000, math.MaxInt32, math.MinInt32, math.MaxInt, math.MaxInt - 1, math.MinInt, math.MinInt + 1} {
			y.bad = bad
			fails(t, "an index", y, api.ErrArg)
		}
	}
	// Literals are no indices.
	y := shown{c: api.Circuit{Inputs: 3, Bads: []int{6}}, t: api.Trace{Inputs: [][]bool{{x, x, x}}}}
	writes(t, "the only one", y, "1\nb0\n\n111\n.\n")
	for _, bad := range []int{1, 3, 6, 7} {
		y.bad = bad
		fails(t, "a literal, or a variable", y, api.ErrArg)
	}
}

// Each letter is a frame: in b and z the bad literal is true, in a and z the other one, in ! no constraint holds, and in ? just the second one fails.
func scripted(letters string) api.Trace {
	var run api.Trace
	for _, letter := range letters {
		run.Inputs = append(run.Inputs, []bool{letter == 'a' || letter == 'z', letter != 'a' && letter != '.', letter != '!', letter != '!' && letter != '?'})
	}
	return run
}

// In a frame in which a constraint fails the bad literal is true all the same. The run shows the bad literal 1 just if it ends with b or z, and has no ! and no ?.
func TestWhereConstraintsFailAndBadLiteralsAreTrue(t *testing.T) {
	c := api.Circuit{Inputs: 4, Bads: []int{2, 4, 0, 4}, Constraints: []int{6, 8}}
	list := []string{""}
	for range 4 {
		var longer []string
		for _, letters := range list {
			for _, letter := range []string{".", "a", "b", "z", "!", "?"} {
				script := letters + letter
				longer = append(longer, script)
				right := !strings.ContainsAny(script, "!?")
				for i, is := range []bool{strings.HasSuffix(script, "a") || strings.HasSuffix(script, "z"), strings.HasSuffix(script, "b") || strings.HasSuffix(script, "z"), o, strings.HasSuffix(script, "b") || strings.HasSuffix(script, "z")} {
					y := shown{c, scripted(script), i}
					if right && is {
						writes(t, script, y, y.text())
					} else {
						fails(t, script, y, api.ErrWitness)
						readFails(t, script, c, y.text(), api.ErrWitness)
					}
				}
			}
		}
		list = longer
	}
}

// A constraint fails in one of 100 frames, or a bad literal is true in one of them.
func TestRunsOf100Frames(t *testing.T) {
	c := api.Circuit{Inputs: 4, Bads: []int{2, 4, 0, 4}, Constraints: []int{6, 8}}
	for i := range 100 {
		for _, letter := range []byte("abz!?") {
			script := []byte(strings.Repeat(".", 100))
			script[i] = letter
			y := shown{c, scripted(string(script)), 1}
			want := api.ErrWitness
			if i == 99 && (letter == 'b' || letter == 'z') {
				want = api.OK
			}
			if e := checksAsWanted(t, "quiet at the end", y); e != want {
				t.Errorf("%s has the error %d; want %d", script, e, want)
			}
			script[99] = 'b'
			y.t = scripted(string(script))
			want = api.OK
			if i < 99 && (letter == '!' || letter == '?') {
				want = api.ErrWitness
			}
			if e := checksAsWanted(t, "bad at the end", y); e != want {
				t.Errorf("%s has the error %d; want %d", script, e, want)
			}
		}
	}
}

// One of 100 constraints fails, and one of 100 bad literals is true.
func TestOneOf100(t *testing.T) {
	for i := range 100 {
		y := shown{c: api.Circuit{Inputs: 1, Bads: slices.Repeat([]int{0}, 100), Constraints: slices.Repeat([]int{1}, 100)}, t: api.Trace{Inputs: [][]bool{{o}, {x}}}}
		y.c.Bads[i] = 2
		for bad := range 100 {
			y.bad = bad
			if bad == i {
				writes(t, "the one that is true", y, fmt.Sprintf("1\nb%d\n\n0\n1\n.\n", i))
			} else {
				fails(t, "one that is false", y, api.ErrWitness)
			}
		}
		y.bad = i
		y.c.Constraints[i] = 2
		fails(t, "a constraint that fails", y, api.ErrWitness)
		y.c.Constraints[i] = 3
		fails(t, "a constraint that fails at last", y, api.ErrWitness)
	}
}

// The bad literals in front of, and behind, the one that is asked for do not matter.
func TestOtherBadLiteralsDoNotMatter(t *testing.T) {
	rnd := rand.New(rand.NewSource(115))
	for y := range showns() {
		alone := y
		alone.c.Bads, alone.bad = []int{y.c.Bads[y.bad]}, 0
		writes(t, "alone", alone, alone.text())
		other := y
		other.c.Bads = slices.Clone(y.c.Bads)
		for i := range other.c.Bads {
			if i != y.bad {
				other.c.Bads[i] = rnd.Intn(2*lastOf(y.c) + 2)
			}
		}
		writes(t, "beside others", other, y.text())
		other.c.Bads[y.bad] ^= 1
		fails(t, "its negation", other, api.ErrWitness)
	}
}

// traces.Witness names the first bad literal that a run shows; Check says of each whether it is one.
func TestCheckAgreesWithTraces(t *testing.T) {
	rnd := rand.New(rand.NewSource(116))
	first, later, none := 0, 0, 0
	for round := range 3000 {
		c := drawnCircuit(rnd, 1+round%8)
		for range rnd.Intn(5) {
			c.Bads = append(c.Bads, rnd.Intn(2*lastOf(c)+2))
		}
		for range rnd.Intn(2) {
			c.Constraints = append(c.Constraints, 1+2*rnd.Intn(lastOf(c)+1))
		}
		y := drawnRun(rnd, c, 1+rnd.Intn(4))
		index, e := traces.Witness(c, y.t)
		if e == api.ErrWitness {
			index = len(c.Bads)
		}
		for i := range c.Bads {
			y.bad = i
			switch got := checksAsWanted(t, "an index", y); {
			case i < index && got != api.ErrWitness, i == index && got != api.OK:
				t.Fatalf("Check(%s) = %d; traces.Witness says %d, %d", short(y), got, index, e)
			case i == index:
				first++
			case got == api.OK:
				later++
			case index == len(c.Bads):
				none++
			}
		}
	}
	if first < 100 || later < 100 || none < 100 {
		t.Errorf("%d first ones, %d later ones, %d of runs that show none", first, later, none)
	}
}

// smallCircuits yields all valid circuits with at most one input and one latch, no gates, at most two bad literals, and at most one constraint.
func smallCircuits(yield func(api.Circuit)) {
	for shape := range 4 {
		last := shape%2 + shape/2
		lists := [][]int{nil}
		for l := range 2*last + 2 {
			lists = append(lists, []int{l})
		}
		for _, bads := range append(slices.Clone(lists), pairs(2*last+2)...) {
			for _, constraints := range lists {
				c := api.Circuit{Inputs: shape % 2, Bads: bads, Constraints: constraints}
				if shape/2 == 0 {
					yield(c)
					continue
				}
				for code := range 3 * (2*last + 2) {
					c.Latches = []api.Latch{{Next: code / 3, Reset: code % 3}}
					yield(c)
				}
			}
		}
	}
}

func pairs(n int) [][]int {
	var all [][]int
	for i := range n * n {
		all = append(all, []int{i / n, i % n})
	}
	return all
}

// smallRuns yields all runs of from 0 to 3 frames, whose first state may be none.
func smallRuns(c api.Circuit, yield func(api.Trace)) {
	digits := func(code, n int) []bool {
		list := make([]bool, n)
		for i := range list {
			list[i] = code>>i&1 == 1
		}
		return list
	}
	for first := range 1 << len(c.Latches) {
		for n := range 4 {
			for code := range 1 << (n * c.Inputs) {
				run := api.Trace{First: digits(first, len(c.Latches))}
				for i := range n {
					run.Inputs = append(run.Inputs, digits(code>>(i*c.Inputs), c.Inputs))
				}
				yield(run)
			}
		}
	}
}

// All small circuits, with all of their short runs and all indices up to one more than there are.
func TestAllSmallCircuits(t *testing.T) {
	seen := map[api.Errno]int{}
	smallCircuits(func(c api.Circuit) {
		smallRuns(c, func(run api.Trace) {
			for bad := -1; bad <= len(c.Bads) && !t.Failed(); bad++ {
				y := shown{c, run, bad}
				seen[checksAsWanted(t, "a small circuit", y)]++
			}
		})
	})
	if len(seen) != 4 || seen[api.OK] < 1000 || seen[api.ErrBad] < 1000 || seen[api.ErrArg] < 1000 || seen[api.ErrWitness] < 1000 {
		t.Errorf("the errors are %v", seen)
	}
}

// P11.3

func TestTextsHaveFourLinesMoreThanFrames(t *testing.T) {
	for y := range showns() {
		s, e := witness.Write(y.c, y.t, y.bad)
		if e != api.OK || strings.Count(s, "\n") != 4+len(y.t.Inputs) || !strings.HasSuffix(s, "\n") {
			t.Fatalf("Write(%s) = %s, %d", short(y), short(s), e)
		}
	}
}

// Different runs of a circuit, or the same one with different indices, have different texts.
func TestDifferentTexts(t *testing.T) {
	for inputs := range 3 {
		for latches := range 3 {
			c := api.Circuit{Inputs: inputs, Latches: slices.Repeat([]api.Latch{{Reset: api.ReAny}}, latches), Bads: slices.Repeat([]int{1}, 12)}
			texts, written := map[string]bool{}, 0
			smallRuns(c, func(run api.Trace) {
				if len(run.Inputs) == 0 {
					return
				}
				for bad := range c.Bads {
					s, e := witness.Write(c, run, bad)
					if e != api.OK {
						t.Errorf("Write(%s, %s, %d): error %d", short(c), short(run), bad, e)
					}
					texts[s] = true
					written++
				}
			})
			if len(texts) != written || written < 36 {
				t.Errorf("%d inputs and %d latches: %d of %d texts are different", inputs, latches, len(texts), written)
			}
		}
	}
}

// A run that differs in one value has a text that differs in one byte, and this is read as it.
func TestOneValueIsOneByte(t *testing.T) {
	for _, y := range []shown{wide(3, 4, 5), wide(1, 1, 100), wide(0, 70, 2), wide(70, 0, 2)} {
		s := y.text()
		for _, list := range append([][]bool{y.t.First}, y.t.Inputs...) {
			for i := range list {
				list[i] = !list[i]
				other, e := witness.Write(y.c, y.t, y.bad)
				differ := 0
				for j := range min(len(s), len(other)) {
					if s[j] != other[j] {
						differ++
					}
				}
				if e != api.OK || len(s) != len(other) || differ != 1 {
					t.Errorf("Write(%s) = %s, %d; before it was %s", short(y), short(other), e, short(s))
				}
				writes(t, "another value", y, other)
				list[i] = !list[i]
			}
		}
	}
}

// What is read from any text has just this text, and shows its bad literal.
func TestWhatIsReadHasTheText(t *testing.T) {
	rnd := rand.New(rand.NewSource(117))
	found := 0
	for y := range showns() {
		for range 20 {
			s := changed(rnd, y.text())
			run, bad, e := witness.Read(y.c, s)
			if e != api.OK {
				continue
			}
			found++
			if got := witness.Check(y.c, run, bad); got != api.OK {
				t.Fatalf("Check of what is read from %s = %d", short(s), got)
			}
			if again, e := witness.Write(y.c, run, bad); again != s || e != api.OK {
				t.Fatalf("Write of what is read from %s = %s, %d", short(s), short(again), e)
			}
		}
	}
	if found < 500 {
		t.Errorf("only %d texts are read", found)
	}
}
