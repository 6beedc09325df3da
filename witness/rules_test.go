package witness_test

import (
	"math"
	"math/rand"
	"reflect"
	"slices"
	"strings"
	"sync"
	"testing"

	"spiritlevel/api"
	"spiritlevel/witness"
)

// P1: R1 to R7. That errors come in order is tested in wrong_test.go.

// roomy returns the list with used memory behind its length.
func roomy[T any](list []T, behind T) []T {
	return append(slices.Clone(list), behind, behind)[:len(list)]
}

func roomyShown(y shown) shown {
	y.t.First, y.t.Inputs = roomy(y.t.First, x), roomy(y.t.Inputs, []bool{x, o, x})
	for i, inputs := range y.t.Inputs {
		y.t.Inputs[i] = roomy(inputs, x)
	}
	y.c.Latches, y.c.Ands = roomy(y.c.Latches, api.Latch{Next: 77, Reset: 7}), roomy(y.c.Ands, api.And{A: 77, B: 78})
	y.c.Bads, y.c.Constraints = roomy(y.c.Bads, 1), roomy(y.c.Constraints, 0)
	return y
}

// whole returns a copy of all the memory of a list.
func whole[T any](list []T) []T { return slices.Clone(list[:cap(list)]) }

// wholeShown returns a copy with all the memory of the lists.
func wholeShown(y shown) shown {
	y.t.First, y.t.Inputs = whole(y.t.First), whole(y.t.Inputs)
	for i, inputs := range y.t.Inputs {
		y.t.Inputs[i] = whole(inputs)
	}
	y.c.Latches, y.c.Ands = whole(y.c.Latches), whole(y.c.Ands)
	y.c.Bads, y.c.Constraints = whole(y.c.Bads), whole(y.c.Constraints)
	return y
}

func callAll(y shown, s string) {
	witness.Check(y.c, y.t, y.bad)
	witness.Write(y.c, y.t, y.bad)
	witness.Read(y.c, s)
}

func TestArgumentsAreOnlyRead(t *testing.T) {
	for plain := range showns() {
		s := plain.text()
		for _, bad := range []int{plain.bad, 0, len(plain.c.Bads) - 1, len(plain.c.Bads), -1} {
			y := roomyShown(plain)
			y.bad = bad
			before := wholeShown(y)
			callAll(y, s)
			callAll(y, y.text())
			if after := wholeShown(y); !reflect.DeepEqual(before, after) {
				t.Fatalf("%s became %s", short(before), short(after))
			}
		}
	}
}

// What stands behind the length of a list does not count.
func TestMemoryBehindListsDoesNotMatter(t *testing.T) {
	for plain := range showns() {
		y := roomyShown(plain)
		writes(t, "with memory behind the lists", y, plain.text())
		// There are bad literals, and frames, behind these.
		y.bad = len(y.c.Bads)
		fails(t, "an index behind the list", y, api.ErrArg)
		y = roomyShown(plain)
		y.t.Inputs = y.t.Inputs[:0]
		fails(t, "no frames", y, api.ErrBad)
		if t.Failed() {
			return
		}
	}
	y := shown{c: api.Circuit{Inputs: 1, Bads: []int{1}}, t: api.Trace{Inputs: [][]bool{make([]bool, 0, 5)}}}
	fails(t, "room for inputs", y, api.ErrBad)
}

// turned changes all values of a list, and of the memory behind it.
func turned(list []bool) {
	list = list[:cap(list)]
	for i := range list {
		list[i] = !list[i]
	}
}

// lists returns the lists of a run, in order.
func lists(run api.Trace) [][]bool { return append([][]bool{run.First}, run.Inputs...) }

// Each list of a run that is read has memory of its own.
func TestResultsShareNoMemory(t *testing.T) {
	for _, y := range []shown{example(), wide(3, 3, 4), wide(7, 1, 9), wide(1, 8, 20), wide(64, 64, 3), wide(100, 200, 100)} {
		s := y.text()
		for i := range lists(y.t) {
			run, _, e := witness.Read(y.c, s)
			if e != api.OK {
				t.Fatalf("Read(%s, %s): error %d", short(y.c), short(s), e)
			}
			turned(lists(run)[i])
			for j, list := range lists(run) {
				if slices.Equal(list, lists(y.t)[j]) == (i == j) {
					t.Errorf("%s: after the list %d was changed, %d is %v; it was %v", short(s), i, j, list, lists(y.t)[j])
				}
			}
		}
		run, _, _ := witness.Read(y.c, s)
		run.Inputs = run.Inputs[:cap(run.Inputs)]
		for i := range run.Inputs {
			run.Inputs[i] = []bool{x, x, x}
		}
		writes(t, "after a run was changed", y, s)
		kept, e := witness.Write(y.c, y.t, y.bad)
		for _, list := range lists(y.t) {
			turned(list)
		}
		if kept != s || e != api.OK {
			t.Errorf("after the run was changed, its text is %s; it was %s", short(kept), short(s))
		}
	}
}

// The memory behind a list that was read is that of no other one.
func TestListsMayGrow(t *testing.T) {
	for _, y := range []shown{example(), wide(3, 3, 4), wide(0, 0, 7), wide(1, 0, 7), wide(0, 1, 7), wide(9, 9, 100)} {
		run, _, _ := witness.Read(y.c, y.text())
		for _, list := range lists(run) {
			turned(list[len(list):])
		}
		if !equalTraces(run, y.t) {
			t.Errorf("the run became %s; it was %s", short(run), short(y.t))
		}
	}
}

// The lists of a run may be parts of one list, and those of a circuit, too.
func TestArgumentsMayShareMemory(t *testing.T) {
	list, literals := []bool{o, o, x, x}, []int{9, 1, 7}
	shared := shown{
		c: api.Circuit{Inputs: 2, Latches: []api.Latch{{Next: 2}, {Next: 8}}, Bads: literals, Constraints: literals[1:2]},
		t: api.Trace{First: list[:2], Inputs: [][]bool{list[1:3], list[2:], list[:2]}},
	}
	for i, want := range []api.Errno{api.OK, api.OK, api.ErrWitness, api.ErrArg} {
		shared.bad = i
		if e := checksAsWanted(t, "shared", shared); e != want {
			t.Errorf("Check(%s) = %d; want %d", short(shared), e, want)
		}
	}
	if s, e := witness.Write(shared.c, shared.t, 0); s != "1\nb0\n00\n01\n11\n00\n.\n" || e != api.OK {
		t.Errorf("Write(%s) = %q, %d", short(shared), s, e)
	}
	if !slices.Equal(list, []bool{o, o, x, x}) || !slices.Equal(literals, []int{9, 1, 7}) {
		t.Errorf("the lists are %v and %v", list, literals)
	}
}

func TestNilAndEmptyListsAreEqual(t *testing.T) {
	one := []int{1}
	for _, c := range []api.Circuit{{Bads: one}, {Latches: []api.Latch{}, Ands: []api.And{}, Bads: one, Constraints: []int{}}} {
		for _, first := range [][]bool{nil, {}} {
			for _, inputs := range [][][]bool{{nil}, {{}}, {nil, {}}, {{}, nil, {}}} {
				y := shown{c, api.Trace{First: first, Inputs: inputs}, 0}
				writes(t, "lists of nothing", y, "1\nb0\n\n"+strings.Repeat("\n", len(inputs))+".\n")
				for _, bads := range [][]int{nil, {}} {
					y.c.Bads = bads
					fails(t, "no bad literals", y, api.ErrArg)
					readFails(t, "no bad literals", y.c, y.text(), api.ErrArg)
				}
			}
			for _, inputs := range [][][]bool{nil, {}} {
				fails(t, "no frames", shown{c, api.Trace{First: first, Inputs: inputs}, 0}, api.ErrBad)
			}
		}
	}
}

// A call does not see what became of the results of another one.
func TestNothingIsKept(t *testing.T) {
	rnd := rand.New(rand.NewSource(121))
	var group sync.WaitGroup
	for y := range showns() {
		other := changed(rnd, y.text())
		group.Go(func() {
			for range 3 {
				writes(t, "again", y, y.text())
				readsAsWanted(t, "again", y.c, other)
				run, _, _ := witness.Read(y.c, y.text())
				for _, list := range lists(run) {
					turned(list)
				}
				witness.Read(blink(), "1\nb0\n0\n\n\n.\n")
				witness.Write(blink(), blinks(3), 0)
			}
		})
	}
	group.Wait()
}

// With an error all results are zero.
func TestZeroValuesBesideErrors(t *testing.T) {
	rnd := rand.New(rand.NewSource(122))
	failed := map[api.Errno]int{}
	for y := range showns() {
		for range 10 {
			s := changed(rnd, y.text())
			run, bad, e := witness.Read(y.c, s)
			if e == api.OK {
				continue
			}
			failed[e]++
			if !reflect.ValueOf(run).IsZero() || bad != 0 {
				t.Fatalf("Read(%s, %s) = %s, %d, %d", short(y.c), short(s), short(run), bad, e)
			}
		}
	}
	if len(failed) != 4 || failed[api.ErrForm] < 100 || failed[api.ErrArg] < 10 || failed[api.ErrBad] < 100 || failed[api.ErrWitness] < 100 {
		t.Errorf("the errors are %v", failed)
	}
}

// Any numbers, and lists of any lengths.
func TestNothingPanics(t *testing.T) {
	numbers := []int{-1, 0, 1, 2, 3, 4, 5, 2000, 2001, 2002, -2, -2001, math.MinInt32, math.MaxInt32, math.MinInt, math.MinInt + 1, math.MaxInt - 1, math.MaxInt}
	rnd := rand.New(rand.NewSource(123))
	pick := func() int { return numbers[rnd.Intn(len(numbers))] }
	for range 40000 {
		c := api.Circuit{Inputs: rnd.Intn(3), Latches: make([]api.Latch, rnd.Intn(3)), Ands: make([]api.And, rnd.Intn(2))}
		if rnd.Intn(4) == 0 {
			c.Inputs = pick()
		}
		for i := range c.Latches {
			c.Latches[i] = api.Latch{Next: rnd.Intn(4), Reset: rnd.Intn(4)}
		}
		for i := range c.Ands {
			c.Ands[i] = api.And{A: rnd.Intn(3), B: rnd.Intn(2)}
		}
		for range rnd.Intn(3) {
			c.Bads = append(c.Bads, rnd.Intn(4))
		}
		if rnd.Intn(4) == 0 {
			c.Bads = append(c.Bads, pick())
		}
		if rnd.Intn(4) == 0 {
			c.Constraints = append(c.Constraints, pick())
		}
		y := shown{c: c, t: api.Trace{First: bits(rnd, rnd.Intn(3))}, bad: pick()}
		for range rnd.Intn(4) {
			y.t.Inputs = append(y.t.Inputs, bits(rnd, rnd.Intn(3)))
		}
		checksAsWanted(t, "any numbers", y)
		readsAsWanted(t, "any numbers", c, y.text())
		if t.Failed() {
			return
		}
	}
}

// Any texts.
func TestNoTextPanics(t *testing.T) {
	rnd := rand.New(rand.NewSource(124))
	pieces := []string{"1\n", "b", "b0\n", "b1\n", "1\nb0\n", "\n", "\n", "0", "1", "0\n", "1\n", "01\n", ".", ".\n", "\n.\n", "-", " ", "c", "\r\n", "\x00", "\xff", "999999999", "1000000000"}
	circuits := []api.Circuit{{Bads: []int{1}}, {Inputs: 1, Bads: []int{1, 2}}, blink(), {Inputs: 2, Latches: []api.Latch{{Next: 2, Reset: api.ReAny}}, Bads: []int{6, 1}}, {Inputs: -1}, {Inputs: 1001}}
	for range 100000 {
		s := ""
		if rnd.Intn(2) == 0 {
			s = "1\nb0\n"
		}
		for range rnd.Intn(9) {
			s += pieces[rnd.Intn(len(pieces))]
		}
		if rnd.Intn(2) == 0 {
			s += ".\n"
		}
		for _, c := range circuits {
			readsAsWanted(t, "pieces", c, s)
		}
		if t.Failed() {
			return
		}
	}
	for b := range 256 {
		for _, size := range []int{1, 2, 6, 9, 100000} {
			for _, s := range []string{strings.Repeat(string([]byte{byte(b)}), size), "1\nb" + strings.Repeat(string([]byte{byte(b)}), size) + "\n.\n", "1\nb0\n" + strings.Repeat(string([]byte{byte(b)}), size) + "\n.\n"} {
				for _, c := range circuits[:3] {
					readsAsWanted(t, "the same bytes", c, s)
				}
			}
		}
	}
}

func FuzzTexts(f *testing.F) {
	for _, s := range []string{"", "1\nb0\n0\n\n\n.\n", exampleText, "1\nb999999999\n\n\n.\n", "1\nb00\n\n\n.\n", "1\nb1\n010\n11\n.\n", "1\nb0\n1\n\n.\n"} {
		f.Add(s)
	}
	circuits := []api.Circuit{blink(), example().c, {Bads: []int{1}}, {Inputs: 1, Bads: []int{2, 3}}, {Inputs: 1001}}
	f.Fuzz(func(t *testing.T, s string) {
		for _, c := range circuits {
			readsAsWanted(t, "a text", c, s)
		}
	})
}
