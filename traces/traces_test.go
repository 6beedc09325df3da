package traces_test

import (
	"math/rand"
	"slices"
	"strings"
	"testing"

	"spiritlevel/api"
	"spiritlevel/traces"
	"spiritlevel/values"
)

// P6.1: what is not right is in wrong_test.go.

func TestFirst(t *testing.T) {
	c := api.Circuit{Inputs: 1, Latches: []api.Latch{{Next: 1, Reset: api.ReZero}, {Next: 2, Reset: api.ReOne}, {Next: 5, Reset: api.ReAny}}}
	for _, y := range []struct {
		state []bool
		want  bool
	}{
		{[]bool{o, x, o}, true},
		{[]bool{o, x, x}, true},
		{[]bool{x, x, o}, false},
		{[]bool{x, x, x}, false},
		{[]bool{o, o, o}, false},
		{[]bool{o, o, x}, false},
		{[]bool{x, o, o}, false},
		{[]bool{x, o, x}, false},
	} {
		if is := firstOf(t, c, y.state); is != y.want {
			t.Errorf("First(%v) = %t; want %t", y.state, is, y.want)
		}
	}
	if !firstOf(t, api.Circuit{}, nil) || !firstOf(t, api.Circuit{Inputs: 3}, []bool{}) {
		t.Error("without latches there is a first state")
	}
	if !firstOf(t, example(), []bool{o}) || firstOf(t, example(), []bool{x}) {
		t.Error("the first state of the example is false")
	}
}

// All resets of four latches, and all states.
func TestFirstOfAllResets(t *testing.T) {
	for code := range 81 * 16 {
		resets, c := code/16, api.Circuit{Inputs: 2}
		var state []bool
		want := true
		for i := range 4 {
			reset, value := resets%3, code>>i&1 == 1
			resets /= 3
			c.Latches, state = append(c.Latches, api.Latch{Next: i, Reset: reset}), append(state, value)
			want = want && (reset == api.ReAny || reset == api.ReOne && value || reset == api.ReZero && !value)
		}
		if is := firstOf(t, c, state); is != want {
			t.Errorf("First(%+v, %v) = %t; want %t", c, state, is, want)
		}
	}
}

// One of 1,000 latches is not as its reset says.
func TestFirstOfManyLatches(t *testing.T) {
	c := api.Circuit{Latches: make([]api.Latch, 1000)}
	state := make([]bool, 1000)
	for i := range c.Latches {
		c.Latches[i].Reset = i % 3
		state[i] = c.Latches[i].Reset != api.ReZero
	}
	if !firstOf(t, c, state) {
		t.Fatal("it is a first state")
	}
	for i := range state {
		state[i] = !state[i]
		if firstOf(t, c, state) != (c.Latches[i].Reset == api.ReAny) {
			t.Errorf("the latch %d with the reset %d may be %t, or may not", i, c.Latches[i].Reset, state[i])
		}
		state[i] = !state[i]
	}
}

// What is not the reset of a latch does not matter, nor do constraints.
func TestOnlyResetsMatterForFirst(t *testing.T) {
	for y := range runs() {
		other := y.c
		other.Inputs, other.Ands, other.Bads, other.Constraints = 0, nil, nil, []int{0}
		other.Latches = slices.Clone(y.c.Latches)
		for i := range other.Latches {
			other.Latches[i].Next = 1
		}
		if !firstOf(t, y.c, y.t.First) || !firstOf(t, other, y.t.First) {
			t.Fatalf("%v is no first state of %+v, or of %+v", y.t.First, y.c, other)
		}
	}
}

func TestRunsAreRight(t *testing.T) {
	for y := range runs() {
		if e := traces.Check(y.c, y.t); e != api.OK {
			t.Fatalf("Check(%+v) says %d", y, e)
		}
	}
	for n := 1; n <= api.MaxFrames; n++ {
		for _, y := range []run{{api.Circuit{}, api.Trace{Inputs: make([][]bool, n)}}, {example(), api.Trace{First: []bool{o}, Inputs: make([][]bool, n)}}} {
			if e := traces.Check(y.c, y.t); e != api.OK {
				t.Errorf("a run of %d frames: Check says %d", n, e)
			}
		}
	}
}

// Whether constraints hold does not matter for what is right.
func TestRunsThatAreNotAllowedAreRight(t *testing.T) {
	y := run{example(), api.Trace{First: []bool{o}, Inputs: make([][]bool, 3)}}
	y.c.Constraints = []int{0}
	if list := statesOf(t, y); !equalLists(list, [][]bool{{o}, {x}, {o}}) {
		t.Errorf("States = %v", list)
	}
	shows(t, y, 0, -1, 0)
}

// P6.2 and P6.3

func TestTheExample(t *testing.T) {
	states := [][]bool{{o}, {x}, {o}, {x}, {o}}
	for _, y := range []struct{ frames, witness, cut int }{{1, -1, 0}, {2, 0, 2}, {3, -1, 2}, {4, 0, 2}, {5, -1, 2}} {
		r := run{example(), api.Trace{First: []bool{o}, Inputs: make([][]bool, y.frames)}}
		if list := statesOf(t, r); !equalLists(list, states[:y.frames]) {
			t.Errorf("States of %d frames = %v", y.frames, list)
		}
		shows(t, r, y.frames, y.witness, y.cut)
	}
}

// Two latches count the frames in which the input is true; at 3 the first gate is true.
func TestACounter(t *testing.T) {
	c := api.Circuit{
		Inputs:  1,
		Latches: []api.Latch{{Next: 14}, {Next: 20, Reset: api.ReAny}},
		Ands:    []api.And{{A: 6, B: 4}, {A: 4, B: 2}, {A: 5, B: 3}, {A: 13, B: 11}, {A: 10, B: 6}, {A: 11, B: 7}, {A: 19, B: 17}},
		Bads:    []int{8},
	}
	y := run{c, api.Trace{First: []bool{o, o}, Inputs: [][]bool{{x}, {o}, {x}, {x}, {o}, {x}, {x}}}}
	want := [][]bool{{o, o}, {x, o}, {x, o}, {o, x}, {x, x}, {x, x}, {o, o}}
	if list := statesOf(t, y); !equalLists(list, want) {
		t.Errorf("States = %v; want %v", list, want)
	}
	shows(t, y, 7, -1, 5)
	shows(t, shortened(y, 6), 6, 0, 5)
	shows(t, shortened(y, 5), 5, 0, 5)
	shows(t, shortened(y, 4), 4, -1, 0)
	// The second latch may be true at first.
	y.t = api.Trace{First: []bool{o, x}, Inputs: [][]bool{{x}, {x}, {x}}}
	if list := statesOf(t, y); !equalLists(list, [][]bool{{o, x}, {x, x}, {o, o}}) {
		t.Errorf("States = %v", list)
	}
	shows(t, y, 3, -1, 2)
	// With this constraint it must not stand still.
	y.c.Constraints = []int{2}
	shows(t, run{y.c, api.Trace{First: []bool{o, o}, Inputs: [][]bool{{x}, {x}, {x}, {x}}}}, 4, 0, 4)
	shows(t, run{y.c, api.Trace{First: []bool{o, o}, Inputs: [][]bool{{x}, {x}, {x}, {o}}}}, 3, -1, 0)
	shows(t, run{y.c, api.Trace{First: []bool{o, x}, Inputs: [][]bool{{x}, {x}, {o}, {x}}}}, 2, -1, 2)
}

// Each letter is a frame: in b and x a bad literal is true, in ! and x a constraint fails.
func isBad(letter rune) bool   { return letter == 'b' || letter == 'x' }
func isWrong(letter rune) bool { return letter == '!' || letter == 'x' }

// scripted makes the letters come from inputs: the bad literal is one input, the constraint the other one.
func scripted(letters string) run {
	y := run{c: api.Circuit{Inputs: 2, Bads: []int{2}, Constraints: []int{1, 4}}}
	for _, letter := range letters {
		y.t.Inputs = append(y.t.Inputs, []bool{isBad(letter), !isWrong(letter)})
	}
	return y
}

// delayed makes the letters come from latches, which are what the inputs of the frame before were.
func delayed(letters string) run {
	y := run{c: api.Circuit{Inputs: 2, Latches: []api.Latch{{Next: 2, Reset: api.ReAny}, {Next: 4, Reset: api.ReAny}}, Bads: []int{6}, Constraints: []int{9}}}
	for i, letter := range letters {
		if i == 0 {
			y.t.First = []bool{isBad(letter), isWrong(letter)}
		} else {
			y.t.Inputs = append(y.t.Inputs, []bool{isBad(letter), isWrong(letter)})
		}
	}
	// The inputs of the last frame are those of none behind it.
	y.t.Inputs = append(y.t.Inputs, []bool{x, x})
	return y
}

func TestWhereConstraintsFailAndBadLiteralsAreTrue(t *testing.T) {
	for _, y := range []struct {
		letters             string
		right, witness, cut int
	}{
		{".", 1, -1, 0},
		{"b", 1, 0, 1},
		{"!", 0, -1, 0},
		{"x", 0, -1, 0},
		{".....", 5, -1, 0},
		{"b....", 5, -1, 1},
		{"..b..", 5, -1, 3},
		{"....b", 5, 0, 5},
		{"bbbbb", 5, 0, 1},
		{".b.b.", 5, -1, 2},
		{".b..b", 5, 0, 2},
		{"b...b", 5, 0, 1},
		{"!....", 0, -1, 0},
		{"..!..", 2, -1, 0},
		{"....!", 4, -1, 0},
		{"!!!!!", 0, -1, 0},
		{".!.!.", 1, -1, 0},
		{"x....", 0, -1, 0},
		{"..x..", 2, -1, 0},
		{"....x", 4, -1, 0},
		{"xxxxx", 0, -1, 0},
		{"!...b", 0, -1, 0},
		{"..!.b", 2, -1, 0},
		{"...!b", 3, -1, 0},
		{"!b..b", 0, -1, 0},
		{"..xb.", 2, -1, 0},
		{".!.x.", 1, -1, 0},
		{"b!...", 1, -1, 1},
		{"b...!", 4, -1, 1},
		{".b!b.", 2, -1, 2},
		{".bx.b", 2, -1, 2},
		{".b..x", 4, -1, 2},
		{"...b!", 4, -1, 4},
		{"b.!.b", 2, -1, 1},
	} {
		shows(t, scripted(y.letters), y.right, y.witness, y.cut)
		shows(t, delayed(y.letters), y.right, y.witness, y.cut)
	}
}

// scriptShows tests a run by its letters, said once more.
func scriptShows(t *testing.T, letters string) {
	t.Helper()
	right, witness, cut := strings.IndexAny(letters, "!x"), -1, 1+strings.IndexAny(letters, "b!x")
	if right < 0 {
		right = len(letters)
	}
	if right == len(letters) && strings.HasSuffix(letters, "b") {
		witness = 0
	}
	if cut > 0 && letters[cut-1] != 'b' {
		cut = 0
	}
	shows(t, scripted(letters), right, witness, cut)
	shows(t, delayed(letters), right, witness, cut)
}

func TestAllShortRuns(t *testing.T) {
	list := []string{""}
	for range 5 {
		var longer []string
		for _, letters := range list {
			for _, letter := range []string{".", "b", "!", "x"} {
				scriptShows(t, letters+letter)
				longer = append(longer, letters+letter)
			}
		}
		list = longer
	}
}

func TestRunsOf100Frames(t *testing.T) {
	quiet := []byte(strings.Repeat(".", 100))
	scriptShows(t, string(quiet))
	for i := range quiet {
		for _, letter := range []byte("b!x") {
			letters := slices.Clone(quiet)
			letters[i] = letter
			scriptShows(t, string(letters))
			letters[99] = 'b'
			scriptShows(t, string(letters))
			letters[50] = '!'
			scriptShows(t, string(letters))
		}
	}
}

// In a frame more than one bad literal is true: the first one counts.
func TestSeveralBadLiterals(t *testing.T) {
	c := api.Circuit{Inputs: 3, Bads: []int{2, 4, 6}}
	none := []bool{o, o, o}
	for i := range 8 {
		last := []bool{i&1 == 1, i&2 == 2, i&4 == 4}
		want := slices.Index(last, x)
		cut := 3
		if want < 0 {
			cut = 0
		}
		shows(t, run{c, api.Trace{Inputs: [][]bool{none, none, last}}}, 3, want, cut)
		for j := 1; j < 8; j++ {
			// In an earlier frame other ones are true.
			before := []bool{j&1 == 1, j&2 == 2, j&4 == 4}
			shows(t, run{c, api.Trace{Inputs: [][]bool{none, before, last}}}, 3, want, 2)
			shows(t, run{c, api.Trace{Inputs: [][]bool{before, none, last}}}, 3, want, 1)
		}
	}
	shows(t, run{api.Circuit{Bads: []int{0, 1, 1, 0}}, api.Trace{Inputs: make([][]bool, 4)}}, 4, 1, 1)
	shows(t, run{api.Circuit{Bads: []int{0, 0}}, api.Trace{Inputs: make([][]bool, 4)}}, 4, -1, 0)
}

func TestOneOf100BadLiterals(t *testing.T) {
	for i := range 100 {
		c := api.Circuit{Inputs: 1, Bads: make([]int, 100)}
		c.Bads[i] = 2
		y := run{c, api.Trace{Inputs: [][]bool{{o}, {x}}}}
		shows(t, y, 2, i, 2)
		c.Bads[99] = 2
		shows(t, y, 2, i, 2)
	}
}

func TestOneOf100Constraints(t *testing.T) {
	for i := range 100 {
		c := api.Circuit{Inputs: 1, Bads: []int{1}, Constraints: slices.Repeat([]int{1}, 100)}
		c.Constraints[i] = 2
		shows(t, run{c, api.Trace{Inputs: [][]bool{{x}, {x}, {o}, {x}}}}, 2, -1, 1)
		shows(t, run{c, api.Trace{Inputs: [][]bool{{x}, {x}}}}, 2, 0, 1)
		shows(t, run{c, api.Trace{Inputs: [][]bool{{o}, {x}}}}, 0, -1, 0)
	}
}

func TestAllIsAsDefined(t *testing.T) {
	var witnesses, cuts, fail int
	for y := range runs() {
		all := wanted(y)
		list := statesOf(t, y)
		if !slices.EqualFunc(list, all, func(state []bool, f frame) bool { return slices.Equal(state, f.state) }) {
			t.Fatalf("States(%+v) = %v", y, list)
		}
		right, witness, cut := wantedRight(all), wantedWitness(all), wantedCut(all)
		shows(t, y, right, witness, cut)
		if witness > 0 {
			witnesses++
		}
		if cut > 1 && cut < len(all) {
			cuts++
		}
		if right > 0 && right < len(all) {
			fail++
		}
	}
	if witnesses < 20 || cuts < 20 || fail < 20 {
		t.Fatalf("%d runs show a bad literal behind the first one, %d are cut in the middle, in %d a constraint fails there", witnesses, cuts, fail)
	}
}

// P6.4

func TestOneFrameMore(t *testing.T) {
	r := rand.New(rand.NewSource(62))
	for y := range runs() {
		if len(y.t.Inputs) == api.MaxFrames {
			continue
		}
		longer := lengthened(y, bits(r, y.c.Inputs))
		before, after := statesOf(t, y), statesOf(t, longer)
		last := len(before) - 1
		next, e := values.Next(y.c, before[last], y.t.Inputs[last])
		if e != api.OK || !equalLists(after, append(before, next)) {
			t.Fatalf("States(%+v) = %v; States(%+v) = %v; want %v behind them", y, before, longer, after, next)
		}
		if a, b := rightOf(t, y), rightOf(t, longer); a > b {
			t.Fatalf("Right(%+v) = %d; Right(%+v) = %d", y, a, longer, b)
		}
	}
}

func TestWhatIsCutIsTheShortestWitness(t *testing.T) {
	cuts, nones := 0, 0
	for y := range runs() {
		n := len(y.t.Inputs)
		cut, is := cutOf(t, y)
		if is {
			cuts++
			n = len(cut.Inputs)
			if n > len(y.t.Inputs) || !equalTraces(cut, shortened(y, n).t) {
				t.Fatalf("Cut(%+v) = %v: it is no beginning", y, cut)
			}
			if witnessOf(t, run{y.c, cut}) < 0 {
				t.Fatalf("Cut(%+v) = %v: it is no witness", y, cut)
			}
			n--
		} else {
			nones++
		}
		for m := 1; m <= n; m++ {
			if witnessOf(t, shortened(y, m)) >= 0 {
				t.Fatalf("Cut(%+v) = %v, %t; %d frames are a witness", y, cut, is, m)
			}
		}
	}
	if cuts < 100 || nones < 100 {
		t.Fatalf("%d runs are cut, %d are not", cuts, nones)
	}
}

func TestAWitnessIsCutToAPartOfIt(t *testing.T) {
	shorter, same := 0, 0
	for y := range runs() {
		if witnessOf(t, y) < 0 {
			continue
		}
		cut, is := cutOf(t, y)
		if n := len(cut.Inputs); !is || n > len(y.t.Inputs) || !equalTraces(cut, shortened(y, n).t) {
			t.Fatalf("the witness %+v is cut to %v, %t", y, cut, is)
		}
		if again, is := cutOf(t, run{y.c, cut}); !is || !equalTraces(again, cut) {
			t.Fatalf("the witness %+v is cut to %v, and this to %v", y, cut, again)
		}
		if len(cut.Inputs) < len(y.t.Inputs) {
			shorter++
		} else {
			same++
		}
	}
	if shorter < 20 || same < 20 {
		t.Fatalf("%d witnesses become shorter, %d do not", shorter, same)
	}
}

func TestWithoutConstraintsAllIsAllowed(t *testing.T) {
	for y := range runs() {
		y.c.Constraints = nil
		if n := rightOf(t, y); n != len(y.t.Inputs) {
			t.Fatalf("Right(%+v) = %d", y, n)
		}
	}
}

func TestWithoutBadLiteralsThereIsNoWitness(t *testing.T) {
	for y := range runs() {
		right := rightOf(t, y)
		y.c.Bads = nil
		shows(t, y, right, -1, 0)
	}
}
