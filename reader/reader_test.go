package reader_test

import (
	"math/rand"
	"slices"
	"strings"
	"testing"

	"spiritlevel/api"
	"spiritlevel/order"
	"spiritlevel/reader"
)

// P8.1 and P8.2: what is read. What is not, is in lines_test.go and wrong_test.go.

func TestExamplesOfTheChapter(t *testing.T) {
	latch := api.Raw{Most: 1, Latches: []api.Define{{Lit: 2, A: 3}}, Bads: []int{2}}
	reads(t, "a latch", "aag 1 0 1 0 0 1\n2 3\n2\n", latch)
	reads(t, "a latch, without the last line feed", "aag 1 0 1 0 0 1\n2 3\n2", latch)
	fails(t, "three numbers", "aag 1 0 1", 1, api.ErrForm)
	fails(t, "three numbers and a line feed", "aag 1 0 1\n", 1, api.ErrForm)
	fails(t, "justice", "aag 0 0 0 0 0 0 0 1", 1, api.ErrKind)
	fails(t, "justice and a line feed", "aag 0 0 0 0 0 0 0 1\n", 1, api.ErrKind)
	c, line, e := reader.Circuit("aag 1 0 1 0 0 1\n2 3\n2\n")
	if want := (api.Circuit{Latches: []api.Latch{{Next: 3}}, Bads: []int{2}}); !sameCircuit(c, want) || line != 0 || e != api.OK {
		t.Errorf("Circuit = %+v, %d, %d; want %+v", c, line, e, want)
	}
}

func TestOrdinaryTexts(t *testing.T) {
	reads(t, "the tests' example", joined(exampleLines()...), example())
	for _, x := range []struct {
		name  string
		lines []string
		want  api.Raw
	}{
		{"none of all", []string{"aag 0 0 0 0 0"}, api.Raw{}},
		{"nothing is defined", []string{"aag 7 0 0 0 0"}, api.Raw{Most: 7}},
		{"an input", []string{"aag 3 1 0 0 0", "4"}, api.Raw{Most: 3, Inputs: []int{4}}},
		{"a latch", []string{"aag 3 0 1 0 0", "4 5"}, api.Raw{Most: 3, Latches: []api.Define{{Lit: 4, A: 5}}}},
		{"an output", []string{"aag 3 0 0 1 0", "1"}, api.Raw{Most: 3, Bads: []int{1}}},
		{"a gate", []string{"aag 3 0 0 0 1", "4 0 1"}, api.Raw{Most: 3, Ands: []api.Define{{Lit: 4, A: 0, B: 1}}}},
		{"a bad literal", []string{"aag 3 0 0 0 0 1", "1"}, api.Raw{Most: 3, Bads: []int{1}}},
		{"a constraint", []string{"aag 3 0 0 0 0 0 1", "1"}, api.Raw{Most: 3, Constraints: []int{1}}},
		{
			"one to six of each",
			[]string{"aag 40 1 2 6 3 4 5", "30", "16 17 1", "20 30", "8", "8", "8", "8", "8", "8", "7", "2", "5", "3", "1", "1", "0", "17", "16", "6 4 31", "4 21 16", "2 6 6"},
			api.Raw{
				Most:        40,
				Inputs:      []int{30},
				Latches:     []api.Define{{Lit: 16, A: 17, B: 1}, {Lit: 20, A: 30}},
				Ands:        []api.Define{{Lit: 6, A: 4, B: 31}, {Lit: 4, A: 21, B: 16}, {Lit: 2, A: 6, B: 6}},
				Bads:        []int{7, 2, 5, 3},
				Constraints: []int{1, 1, 0, 17, 16},
			},
		},
		{
			"lines behind the gates",
			[]string{"aag 2 1 0 1 1", "2", "5", "4 2 2", "i0 go", "o0 stop", "c", "", "j"},
			api.Raw{Most: 2, Inputs: []int{2}, Ands: []api.Define{{Lit: 4, A: 2, B: 2}}, Bads: []int{5}},
		},
		{
			"numbers of one to four digits",
			[]string{"aag 1000 6 2 0 1 4 0", "8", "10", "98", "100", "998", "1000", "6 999 6", "1998 2000 0", "0", "9", "99", "2001", "2000 11 101"},
			api.Raw{
				Most:    1000,
				Inputs:  []int{8, 10, 98, 100, 998, 1000},
				Latches: []api.Define{{Lit: 6, A: 999, B: 2}, {Lit: 1998, A: 2000}},
				Ands:    []api.Define{{Lit: 2000, A: 11, B: 101}},
				Bads:    []int{0, 9, 99, 2001},
			},
		},
	} {
		reads(t, x.name, joined(x.lines...), x.want)
	}
}

// From 5 to 9 numbers: those that are not told are 0.
func TestNumbersOfTheFirstLine(t *testing.T) {
	behind := "\n2\n4 3\n2\n6 5 2\n"
	want := api.Raw{Most: 3, Inputs: []int{2}, Latches: []api.Define{{Lit: 4, A: 3}}, Ands: []api.Define{{Lit: 6, A: 5, B: 2}}, Bads: []int{2}}
	for _, more := range []string{"", " 0", " 0 0", " 0 0 0", " 0 0 0 0"} {
		reads(t, "an output", "aag 3 1 1 1 1"+more+behind, want)
	}
	for _, more := range []string{"", " 0", " 0 0", " 0 0 0"} {
		reads(t, "a bad literal", "aag 3 1 1 0 1 1"+more+behind, want)
	}
	want.Bads, want.Constraints = nil, []int{2}
	for _, more := range []string{"", " 0", " 0 0"} {
		reads(t, "a constraint", "aag 3 1 1 0 1 0 1"+more+behind, want)
	}
}

func TestResets(t *testing.T) {
	for _, next := range []string{"0", "1", "4", "5"} {
		for told, reset := range map[string]int{"": api.ReZero, " 0": api.ReZero, " 1": api.ReOne, " 4": api.ReAny} {
			s := "aag 2 0 1 0 0\n4 " + next + told + "\n"
			reads(t, "a reset", s, api.Raw{Most: 2, Latches: []api.Define{{Lit: 4, A: int(next[0] - '0'), B: reset}}})
		}
	}
	reads(t, "all resets, twice", joined("aag 8 0 8 0 0", "12 0 12", "2 0 1", "4 0 0", "6 0", "10 0 1", "8 0 8", "16 1", "14 1 0"), api.Raw{
		Most:    8,
		Latches: []api.Define{{Lit: 12, B: 2}, {Lit: 2, B: 1}, {Lit: 4}, {Lit: 6}, {Lit: 10, B: 1}, {Lit: 8, B: 2}, {Lit: 16, A: 1}, {Lit: 14, A: 1}},
	})
	s := "aag 1000 0 1 0 0\n2000 2001 2000\n"
	reads(t, "the greatest literal", s, api.Raw{Most: 1000, Latches: []api.Define{{Lit: 2000, A: 2001, B: 2}}})
}

// Outputs are bad literals only if there are no others.
func TestOutputs(t *testing.T) {
	inputs := []int{2, 4, 6}
	reads(t, "outputs alone", joined("aag 3 3 0 4 0", "2", "4", "6", "7", "2", "0", "2"), api.Raw{Most: 3, Inputs: inputs, Bads: []int{7, 2, 0, 2}})
	reads(t, "no bad literals are told", joined("aag 3 3 0 2 0 0 1", "2", "4", "6", "7", "2", "5"), api.Raw{Most: 3, Inputs: inputs, Bads: []int{7, 2}, Constraints: []int{5}})
	reads(t, "outputs and bad literals", joined("aag 3 3 0 2 0 1", "2", "4", "6", "7", "2", "5"), api.Raw{Most: 3, Inputs: inputs, Bads: []int{5}})
	reads(t, "outputs, bad literals and constraints", joined("aag 3 3 0 1 0 2 1", "2", "4", "6", "7", "2", "5", "3"), api.Raw{Most: 3, Inputs: inputs, Bads: []int{2, 5}, Constraints: []int{3}})
	reads(t, "neither", joined("aag 3 3 0 0 0 0 1", "2", "4", "6", "3"), api.Raw{Most: 3, Inputs: inputs, Constraints: []int{3}})
	hundred := slices.Repeat([]int{1}, 100)
	reads(t, "100 outputs", joined("aag 0 0 0 100 0", strings.Repeat("1\n", 99)+"1"), api.Raw{Bads: hundred})
	fails(t, "101 outputs", joined("aag 0 0 0 101 0", strings.Repeat("1\n", 100)+"1"), 0, api.ErrMany)
	reads(t, "1,000 outputs and 100 bad literals", joined("aag 0 0 0 1000 0 100", strings.Repeat("0\n", 1000)+strings.Repeat("1\n", 99)+"1"), api.Raw{Bads: hundred})
}

// Outputs that do not count are any numbers; as bad literals they are checked.
func TestOutputsThatDoNotCount(t *testing.T) {
	for _, word := range []string{"0", "1", "2", "3", "4", "5", "6", "9", "10", "2001", "2002", "12345678", "123456789", "999999999"} {
		reads(t, "beside a bad literal", joined("aag 2 1 0 1 0 1", "2", word, "3"), api.Raw{Most: 2, Inputs: []int{2}, Bads: []int{3}})
	}
	for word, e := range map[string]api.Errno{"4": api.ErrOpen, "5": api.ErrOpen, "6": api.ErrBad, "9": api.ErrBad, "999999999": api.ErrBad} {
		fails(t, "as a bad literal", joined("aag 2 1 0 1 0", "2", word), 0, e)
		fails(t, "as a bad literal, with a constraint", joined("aag 2 1 0 1 0 0 1", "2", word, "3"), 0, e)
	}
}

// A first line may tell MaxVars of each.
func TestTheGreatestNumbersOfTheFirstLine(t *testing.T) {
	lines := []string{"aag 1000 1000 0 0 0"}
	r := api.Raw{Most: 1000}
	for i := range 1000 {
		lines, r.Inputs = append(lines, row(2+2*i)), append(r.Inputs, 2+2*i)
	}
	reads(t, "1,000 inputs", joined(lines...), r)
	lines, r = []string{"aag 1000 0 1000 0 0"}, api.Raw{Most: 1000}
	for i := range 1000 {
		lines, r.Latches = append(lines, row(2+2*i, i, 1)), append(r.Latches, api.Define{Lit: 2 + 2*i, A: i, B: 1})
	}
	reads(t, "1,000 latches", joined(lines...), r)
	lines, r = []string{"aag 1000 0 0 0 1000"}, api.Raw{Most: 1000}
	for i := range 1000 {
		lines, r.Ands = append(lines, row(2000-2*i, 0, 1)), append(r.Ands, api.Define{Lit: 2000 - 2*i, A: 0, B: 1})
	}
	reads(t, "1,000 gates", joined(lines...), r)
	reads(t, "all variables", textIn(full(), style{}), full())
	reads(t, "the longest numbers", textIn(longest(), style{}), longest())
}

func TestBehindTheGates(t *testing.T) {
	want := api.Raw{Most: 1, Inputs: []int{2}}
	for _, behind := range []string{
		"i", "l", "o", "b", "c", "i0", "l0 name", "o0 a name of words", "b0  \t ", "comment", "cc", "c c", "c ", "c\r", "c\x00", "i\xff", "iä",
		"i\nl\no\nb", "b\no\nl\ni\nc", "i0 x\ni0 x\ni0 x", "i9999999999", "l-1", "o 0 1 2", "c\n", "c\n\n", "c\n\n\n", "c\n j", "c\nj0 x\nf0 y", "c\n\x00\xff\r", "c\nc\nc", "cx\nc\nz", "c0\ni0",
	} {
		reads(t, "behind the gates", "aag 1 1 0 0 0\n2\n"+behind, want)
		reads(t, "behind the gates, with a line feed", "aag 1 1 0 0 0\n2\n"+behind+"\n", want)
		reads(t, "behind the first line", "aag 0 0 0 0 0\n"+behind, api.Raw{})
	}
	// Only the line "c" ends a text.
	for _, almost := range []string{"cc", "c ", " c", "C", "c\r", "c0"} {
		line := 4
		if almost[0] != 'c' {
			line = 3
		}
		fails(t, "no end", "aag 1 1 0 0 0\n2\n"+almost+"\nz\n", line, api.ErrMore)
	}
}

func TestTheLastLineFeed(t *testing.T) {
	for _, lines := range [][]string{
		{"aag 0 0 0 0 0"},
		{"aag 1 1 0 0 0", "2"},
		{"aag 1 0 1 0 0", "2 3 2"},
		{"aag 1 0 0 0 1", "2 1 0"},
		{"aag 0 0 0 1 0", "1"},
		{"aag 0 0 0 0 0 1", "1"},
		{"aag 0 0 0 0 0 0 1", "1"},
		{"aag 0 0 0 0 0", "i0"},
		{"aag 0 0 0 0 0", "c"},
		{"aag 0 0 0 0 0", "c", "x"},
	} {
		want, line, e := wanted(joined(lines...))
		if line != 0 || e != api.OK {
			t.Fatalf("%q is not read: %d, %d", lines, line, e)
		}
		reads(t, "with a line feed", joined(lines...), want)
		reads(t, "without one", strings.Join(lines, "\n"), want)
	}
}

// 40,000 bytes are read, one more is too many, whatever stands there.
func TestLongTexts(t *testing.T) {
	for _, start := range []string{joined(exampleLines()...), joined(exampleLines()...) + "c\n", joined(exampleLines()...) + "c\n\n\nz"} {
		fill := func(size int) string { return start + strings.Repeat("b", size-len(start)) }
		reads(t, "39,999 bytes", fill(39999), example())
		reads(t, "40,000 bytes", fill(40000), example())
		fails(t, "40,001 bytes", fill(40001), 0, api.ErrMany)
		fails(t, "40,001 bytes with a line feed", fill(40000)+"\n", 0, api.ErrMany)
	}
	long := textIn(longest(), style{counts: 9, behind: []string{"c"}})
	reads(t, "the longest numbers", long+strings.Repeat("z", 40000-len(long)), longest())
	fails(t, "the longest numbers and one byte too many", long+strings.Repeat("z", 40001-len(long)), 0, api.ErrMany)
	reads(t, "many lines", "aag 0 0 0 0 0\n"+strings.Repeat("b\n", 19993), api.Raw{})
	for _, s := range []string{"\n", " ", "0", "0 ", "aag ", "c\n", "\x00", "aag 0 0 0 0 0\n"} {
		fails(t, "too many bytes", strings.Repeat(s, 40001/len(s)+1), 0, api.ErrMany)
		readsAsWanted(t, "no more than 40,000 bytes", strings.Repeat(s, 40000/len(s)))
	}
	fails(t, "much too many bytes", strings.Repeat("aag 0 0 0 0 0 0 0 1\n", 100000), 0, api.ErrMany)
}

// What is read does not depend on how it is written.
func TestRawCircuitsInAllStyles(t *testing.T) {
	rnd := rand.New(rand.NewSource(82))
	for r := range raws() {
		for range 4 {
			reads(t, "a raw circuit", textIn(r, drawnStyle(rnd)), r)
		}
		for counts := range 10 {
			reads(t, "with so many numbers", textIn(r, style{counts: counts, zeros: counts%2 == 0}), r)
		}
		if len(r.Bads) > 0 {
			reads(t, "with outputs", textIn(r, style{counts: 5, asBad: true}), r)
		}
		if t.Failed() {
			return
		}
	}
}

// P8.2

func TestCircuitsOfTexts(t *testing.T) {
	for _, x := range []struct {
		name  string
		lines []string
		want  api.Circuit
	}{
		{"none of all", []string{"aag 9 0 0 0 0"}, api.Circuit{}},
		{
			"of layer 3's section Examples", []string{"aag 4 2 0 0 2", "2", "4", "6 4 8", "8 2 4"},
			api.Circuit{Inputs: 2, Ands: []api.And{{A: 4, B: 2}, {A: 6, B: 4}}},
		},
		{
			"the tests' example", exampleLines(),
			api.Circuit{Inputs: 2, Latches: []api.Latch{{Next: 13, Reset: api.ReAny}, {Reset: api.ReOne}}, Ands: []api.And{{A: 7, B: 2}, {A: 10, B: 5}}, Bads: []int{12, 1}, Constraints: []int{9, 11}},
		},
	} {
		if c, line, e := reader.Circuit(joined(x.lines...)); !sameCircuit(c, x.want) || line != 0 || e != api.OK {
			t.Errorf("%s: Circuit = %+v, %d, %d; want %+v", x.name, c, line, e, x.want)
		}
	}
}

func TestCircuitsAreThoseOfRawCircuits(t *testing.T) {
	rnd := rand.New(rand.NewSource(83))
	for r := range raws() {
		s := textIn(r, drawnStyle(rnd))
		want, _, e := order.Circuit(r)
		if c, line, d := reader.Circuit(s); !sameCircuit(c, want) || line != 0 || d != api.OK || e != api.OK {
			t.Fatalf("Circuit of %s = %+v, %d, %d; want %+v, %d", short(s), c, line, d, want, e)
		}
	}
}
