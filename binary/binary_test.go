package binary_test

import (
	"bytes"
	"math/rand"
	"slices"
	"strings"
	"testing"

	"spiritlevel/api"
	"spiritlevel/binary"
	"spiritlevel/gates"
	"spiritlevel/reader"
)

// P10.1, P10.2 and P10.3: what is written, and what is read. What is not is in lines_test.go and wrong_test.go.

// inBytes returns the bytes of lines, and of gates behind them.
func inBytes(lines []string, gates ...byte) []byte { return parts{lines: lines, gates: gates}.bytes() }

func TestExamplesOfTheChapter(t *testing.T) {
	c := api.Circuit{Inputs: 2, Latches: []api.Latch{{Next: 8, Reset: api.ReOne}}, Ands: []api.And{{A: 4, B: 2}}, Bads: []int{9}}
	b := []byte("aig 4 2 1 0 1 1 0\n8 1\n9\n\x04\x02")
	writes(t, "the chapter's circuit", c, b)
	reads(t, "the chapter's circuit", b, c)
}

// byHand are circuits and their bytes, as the chapter tells them.
var byHand = []struct {
	name string
	c    api.Circuit
	b    string
}{
	{"nothing", api.Circuit{}, "aig 0 0 0 0 0 0 0\n"},
	{"an input", api.Circuit{Inputs: 1}, "aig 1 1 0 0 0 0 0\n"},
	{"1,000 inputs", api.Circuit{Inputs: 1000}, "aig 1000 1000 0 0 0 0 0\n"},
	{"a latch with ReZero", api.Circuit{Latches: []api.Latch{{Next: 3}}}, "aig 1 0 1 0 0 0 0\n3\n"},
	{"a latch with ReOne", api.Circuit{Latches: []api.Latch{{Next: 2, Reset: api.ReOne}}}, "aig 1 0 1 0 0 0 0\n2 1\n"},
	{"a latch with ReAny", api.Circuit{Latches: []api.Latch{{Next: 0, Reset: api.ReAny}}}, "aig 1 0 1 0 0 0 0\n0 2\n"},
	{"latches behind inputs", api.Circuit{Inputs: 3, Latches: []api.Latch{{Next: 1, Reset: api.ReAny}, {Next: 11}, {Next: 2, Reset: api.ReAny}}}, "aig 6 3 3 0 0 0 0\n1 8\n11\n2 12\n"},
	{"a gate of constants", api.Circuit{Ands: []api.And{{A: 1, B: 0}}}, "aig 1 0 0 0 1 0 0\n\x01\x01"},
	{"the gate with the least parts", api.Circuit{Ands: []api.And{{A: 0, B: 0}}}, "aig 1 0 0 0 1 0 0\n\x02\x00"},
	{"a bad literal", api.Circuit{Bads: []int{1}}, "aig 0 0 0 0 0 1 0\n1\n"},
	{"a constraint", api.Circuit{Constraints: []int{0}}, "aig 0 0 0 0 0 0 1\n0\n"},
	{"the same literals again", api.Circuit{Inputs: 1, Bads: []int{3, 3, 2}, Constraints: []int{3, 3}}, "aig 1 1 0 0 0 3 2\n3\n3\n2\n3\n3\n"},
	{"bytes that are line feeds, blanks and letters", api.Circuit{Inputs: 52, Ands: []api.And{{A: 96, B: 86}, {A: 98, B: 66}, {A: 11, B: 1}}}, "aig 55 52 0 0 3 0 0\n\n\n\n c\n"},
	{"numbers of two bytes", api.Circuit{Inputs: 200, Ands: []api.And{{A: 102, B: 0}}}, "aig 201 200 0 0 1 0 0\n\xac\x02f"},
	{"two of each", example(), "aig 6 2 2 0 2 2 2\n13 6\n0 1\n12\n1\n5\n11\n\x01\x05\n\x00"},
}

func TestBytesByHand(t *testing.T) {
	for _, x := range byHand {
		writes(t, x.name, x.c, []byte(x.b))
		reads(t, x.name, []byte(x.b), x.c)
	}
}

// P10.1

func TestWriteOfMany(t *testing.T) {
	for c := range circuits() {
		writes(t, "a circuit", c, bytesIn(c, asWritten()))
		if t.Failed() {
			return
		}
	}
}

// wrongCircuits are not valid, each with its error.
func wrongCircuits() map[api.Errno][]api.Circuit {
	one := []api.Latch{{}}
	return map[api.Errno][]api.Circuit{
		api.ErrBad: {
			{Inputs: -1},
			{Inputs: -1, Bads: make([]int, 101)},
			{Inputs: -1 << 63},
			{Latches: []api.Latch{{Next: 4}}},
			{Latches: []api.Latch{{Next: -1}}},
			{Latches: []api.Latch{{Reset: 3}}},
			{Latches: []api.Latch{{Reset: -1}}},
			{Latches: []api.Latch{{Reset: 1 << 40}}},
			{Latches: one, Bads: []int{4}},
			{Latches: one, Bads: []int{-2}},
			{Latches: one, Constraints: []int{4}},
			{Latches: one, Constraints: []int{-1}},
			{Ands: []api.And{{A: 2, B: 0}}},
			{Ands: []api.And{{A: 0, B: 1}}},
			{Ands: []api.And{{A: 0, B: -1}}},
			{Inputs: 1, Ands: []api.And{{A: 2, B: 1}, {A: 6, B: 0}}},
		},
		api.ErrMany: {
			{Inputs: 1001},
			{Inputs: 1<<63 - 1, Latches: one},
			constant(0, 1001, 0),
			constant(0, 0, 1001),
			constant(400, 400, 201),
			{Bads: make([]int, 101)},
			{Constraints: make([]int, 101)},
			{Bads: slices.Repeat([]int{77}, 101), Constraints: []int{-1}},
		},
	}
}

func TestWriteOfWrongCircuits(t *testing.T) {
	for want, list := range wrongCircuits() {
		for _, c := range list {
			if e := gates.Check(c); e != want {
				t.Fatalf("gates.Check(%+v) = %d", c, e)
			}
			if b, e := binary.Write(c); len(b) != 0 || e != want {
				t.Errorf("Write(%+v) = %s, %d; want the error %d", c, short(b), e, want)
			}
		}
	}
}

// P10.2

func TestReadOfMany(t *testing.T) {
	rnd := rand.New(rand.NewSource(102))
	for c := range circuits() {
		for range 4 {
			s := drawnStyle(rnd)
			reads(t, "a circuit", bytesIn(c, s), c)
		}
		if t.Failed() {
			return
		}
	}
}

func TestTheTestsExample(t *testing.T) {
	reads(t, "the tests' example", exampleParts().bytes(), example())
	p := exampleParts()
	p.open = true
	reads(t, "the tests' example without a last line feed", p.bytes(), example())
	writes(t, "the tests' example", example(), bytesIn(example(), asWritten()))
}

// From 5 to 9 numbers: those that are not told are 0.
func TestNumbersOfTheFirstLine(t *testing.T) {
	want := api.Circuit{Inputs: 1, Latches: []api.Latch{{Next: 3}}, Ands: []api.And{{A: 5, B: 2}}, Bads: []int{2}}
	for _, more := range []string{"", " 0", " 0 0", " 0 0 0", " 0 0 0 0"} {
		reads(t, "an output", []byte("aig 3 1 1 1 1"+more+"\n3\n2\n\x01\x03"), want)
	}
	for _, more := range []string{"", " 0", " 0 0", " 0 0 0"} {
		reads(t, "a bad literal", []byte("aig 3 1 1 0 1 1"+more+"\n3\n2\n\x01\x03"), want)
	}
	want.Bads, want.Constraints = nil, []int{2}
	for _, more := range []string{"", " 0", " 0 0"} {
		reads(t, "a constraint", []byte("aig 3 1 1 0 1 0 1"+more+"\n3\n2\n\x01\x03"), want)
	}
}

// The reset ReAny is told by the literal of the latch's own variable, which stands behind inputs and other latches.
func TestResets(t *testing.T) {
	for _, next := range []int{0, 1, 4, 5} {
		for told, reset := range map[string]int{"": api.ReZero, " 0": api.ReZero, " 1": api.ReOne, " 4": api.ReAny} {
			b := []byte("aig 2 1 1 0 0\n" + row(next) + told + "\n")
			reads(t, "a reset", b, api.Circuit{Inputs: 1, Latches: []api.Latch{{Next: next, Reset: reset}}})
		}
	}
	reads(t, "all resets, twice", inBytes([]string{"aig 9 1 8 0 0", "0 4", "0 1", "0 0", "0", "0 1", "0 14", "1", "1 0"}), api.Circuit{
		Inputs:  1,
		Latches: []api.Latch{{Reset: 2}, {Reset: 1}, {}, {}, {Reset: 1}, {Reset: 2}, {Next: 1}, {Next: 1}},
	})
	reads(t, "the greatest literals", inBytes([]string{"aig 1000 999 1 0 0", "2001 2000"}), api.Circuit{Inputs: 999, Latches: []api.Latch{{Next: 2001, Reset: 2}}})
	for _, inputs := range []int{0, 1, 2, 500, 997} {
		for n := range 3 {
			c := constant(inputs, n, 3-n)
			for i := range c.Latches {
				c.Latches[i].Reset = api.ReAny
			}
			reads(t, "only ReAny", bytesIn(c, asWritten()), c)
		}
	}
}

// Outputs are bad literals only if there are no others.
func TestOutputs(t *testing.T) {
	reads(t, "outputs alone", inBytes([]string{"aig 3 3 0 4 0", "7", "2", "0", "2"}), api.Circuit{Inputs: 3, Bads: []int{7, 2, 0, 2}})
	reads(t, "no bad literals are told", inBytes([]string{"aig 3 3 0 2 0 0 1", "7", "2", "5"}), api.Circuit{Inputs: 3, Bads: []int{7, 2}, Constraints: []int{5}})
	reads(t, "outputs and bad literals", inBytes([]string{"aig 3 3 0 2 0 1", "7", "2", "5"}), api.Circuit{Inputs: 3, Bads: []int{5}})
	reads(t, "outputs, bad literals and constraints", inBytes([]string{"aig 3 3 0 1 0 2 1", "7", "2", "5", "3"}), api.Circuit{Inputs: 3, Bads: []int{2, 5}, Constraints: []int{3}})
	reads(t, "neither", inBytes([]string{"aig 3 3 0 0 0 0 1", "3"}), api.Circuit{Inputs: 3, Constraints: []int{3}})
	hundred := slices.Repeat([]int{1}, 100)
	reads(t, "100 outputs", []byte("aig 0 0 0 100 0\n"+strings.Repeat("1\n", 100)), api.Circuit{Bads: hundred})
	fails(t, "101 outputs", []byte("aig 0 0 0 101 0\n"+strings.Repeat("1\n", 101)), api.ErrMany)
	reads(t, "1,000 outputs and 100 bad literals", []byte("aig 0 0 0 1000 0 100\n"+strings.Repeat("0\n", 1000)+strings.Repeat("1\n", 100)), api.Circuit{Bads: hundred})
}

// Outputs that do not count are any numbers; as bad literals they are checked.
func TestOutputsThatDoNotCount(t *testing.T) {
	for _, word := range []string{"0", "1", "2", "3", "4", "5", "2001", "2002", "12345678", "123456789", "999999999"} {
		reads(t, "beside a bad literal", inBytes([]string{"aig 1 1 0 1 0 1", word, "3"}), api.Circuit{Inputs: 1, Bads: []int{3}})
	}
	for _, word := range []string{"4", "5", "6", "2001", "2002", "999999999"} {
		fails(t, "as a bad literal", inBytes([]string{"aig 1 1 0 1 0", word}), api.ErrBad)
		fails(t, "as a bad literal, with a constraint", inBytes([]string{"aig 1 1 0 1 0 0 1", word, "3"}), api.ErrBad)
	}
}

// What stands in the bytes of gates is told by their number alone: they may look like lines, and what is behind them like gates.
func TestGatesThatLookLikeLines(t *testing.T) {
	for _, pair := range [][2]byte{{10, 10}, {10, 0}, {'c', 10}, {'0', 10}, {' ', ' '}, {13, 10}, {1, 'c'}, {'i', '0'}, {127, 127}} {
		c := api.Circuit{Inputs: 126}
		var b []byte
		for i := range 20 {
			own := 2 * (127 + i)
			a := own - int(pair[0])
			c.Ands, b = append(c.Ands, api.And{A: a, B: a - int(pair[1])}), append(b, pair[:]...)
		}
		writes(t, "such gates", c, slices.Concat([]byte("aig 146 126 0 0 20 0 0\n"), b))
		for _, behind := range []string{"", "c", "c\n", "c\n\n\n", "i0 x\nc\n\x00", "o0\nb0"} {
			reads(t, "such gates", slices.Concat([]byte("aig 146 126 0 0 20\n"), b, []byte(behind)), c)
		}
		fails(t, "one more", slices.Concat([]byte("aig 146 126 0 0 20\n"), b, []byte{1, 1}), api.ErrMore)
		fails(t, "such gates, and an empty line", slices.Concat([]byte("aig 146 126 0 0 20\n"), b, []byte{10}), api.ErrMore)
		fails(t, "one less", slices.Concat([]byte("aig 146 126 0 0 20\n"), b[:38]), api.ErrNone)
	}
}

func TestBehindTheGates(t *testing.T) {
	ofGates := parts{lines: []string{"aig 2 1 0 0 1"}, gates: []byte{1, 3}}.bytes()
	gate := api.Circuit{Inputs: 1, Ands: []api.And{{A: 3, B: 0}}}
	for _, behind := range []string{
		"", "i", "l", "o", "b", "c", "i0", "l0 name", "o0 a name of words", "b0  \t ", "comment", "cc", "c c", "c ", "c\r", "c\x00", "i\xff", "iä",
		"i\nl\no\nb", "b\no\nl\ni\nc", "i0 x\ni0 x\ni0 x", "i9999999999", "l-1", "o 0 1 2", "c\n", "c\n\n", "c\n\n\n", "c\n j", "c\nj0 x\nf0 y", "c\n\x00\xff\r", "c\nc\nc", "cx\nc\nz", "c0\ni0",
	} {
		reads(t, "behind gates", slices.Concat(ofGates, []byte(behind)), gate)
		reads(t, "behind the first line", []byte("aig 0 0 0 0 0\n"+behind), api.Circuit{})
		reads(t, "behind a latch", []byte("aig 1 0 1 0 0\n3\n"+behind), api.Circuit{Latches: []api.Latch{{Next: 3}}})
		if behind != "" {
			reads(t, "behind gates, with a line feed", slices.Concat(ofGates, []byte(behind+"\n")), gate)
			reads(t, "behind the first line, with a line feed", []byte("aig 0 0 0 0 0\n"+behind+"\n"), api.Circuit{})
		}
	}
	// Only the line "c" ends the bytes.
	for _, almost := range []string{"cc", "c ", " c", "C", "c\r", "c0", "i0 c", "\nc"} {
		fails(t, "no end", slices.Concat(ofGates, []byte(almost+"\nz\n")), api.ErrMore)
		fails(t, "no end", []byte("aig 0 0 0 0 0\n"+almost+"\nz\n"), api.ErrMore)
	}
}

// 40,000 bytes are read, one more is too many, whatever stands there.
func TestTheLongestBytes(t *testing.T) {
	for _, c := range []api.Circuit{{}, example(), full(), longest(), constant(0, 0, 1000)} {
		b := bytesIn(c, style{behind: []string{"i0 x", "c"}})
		for _, fill := range []byte{'c', '\n', 0, 255} {
			most := slices.Concat(b, bytes.Repeat([]byte{fill}, 40000-len(b)))
			reads(t, "40,000 bytes", most, c)
			reads(t, "39,999 bytes", most[:39999], c)
			fails(t, "40,001 bytes", append(most, fill), api.ErrMany)
		}
	}
	// One long line behind the shortest first line.
	b := append([]byte("aig 0 0 0 0 0\n"), bytes.Repeat([]byte{'c'}, 40000-14)...)
	reads(t, "40,000 bytes", b, api.Circuit{})
	fails(t, "40,001 bytes", append(b, 'c'), api.ErrMany)
	b = append([]byte("aig 0 0 0 0 0\nc\n"), bytes.Repeat([]byte{'\n'}, 40000-16)...)
	reads(t, "40,000 bytes", b, api.Circuit{})
	fails(t, "40,001 bytes", append(b, '\n'), api.ErrMany)
	b = []byte("aig 0 0 0 0 0\n" + strings.Repeat("i\n", 19993))
	reads(t, "40,000 bytes", b, api.Circuit{})
	b[len(b)-2] = 'j'
	fails(t, "another letter at the end", b, api.ErrMore)
	for _, size := range []int{40001, 40002, 50000, 1 << 20} {
		for _, fill := range []byte{0, 10, ' ', 'a', 'c', 255} {
			fails(t, "too many bytes", bytes.Repeat([]byte{fill}, size), api.ErrMany)
		}
	}
}

// A first line may tell MaxVars of each.
func TestTheGreatestNumbersOfTheFirstLine(t *testing.T) {
	for _, c := range []api.Circuit{constant(1000, 0, 0), constant(0, 1000, 0), constant(0, 0, 1000), constant(1, 999, 0), constant(0, 999, 1), full(), longest()} {
		reads(t, "1,000 variables", bytesIn(c, asWritten()), c)
		writes(t, "1,000 variables", c, bytesIn(c, asWritten()))
	}
	reads(t, "1,000 inputs, and lines behind them", []byte("aig 1000 1000 0 0 0\ni0 x\nc\n"), api.Circuit{Inputs: 1000})
	reads(t, "1,000 latches", []byte("aig 1000 0 1000 0 0\n"+strings.Repeat("2001\n", 1000)), api.Circuit{Latches: slices.Repeat([]api.Latch{{Next: 2001}}, 1000)})
}

// P10.3

// textsOf are texts of layer 8, and what begins like them.
var textsOf = []string{
	"aag ", "aag x", "aag 0 0 0 0 0", "aag 0 0 0 0 0\n", "aag 1 0 1", "aag 1 0 1\n", "aag 0 0 0 0 0 0 0 1\n", "aag 1001 0 0 0 0\n", "aag 0 0 0 0 0\nz\n",
	"aag 1 0 1 0 0 1\n2 3\n2\n", "aag 1 0 1 0 0 1\n2 3\n2", "aag 1 0 1 0 0 1\n2 3\n", "aag 4 2 1 0 1 1 0\n2\n4\n6 8 1\n9\n8 4 2\n", "aag 4 2 1 0 1 1 0\n8 1\n9\n\x04\x02",
	"aag 9 2 2 0 2 2 2\n12\n2\n8 15 8\n4 0 1\n14\n1\n5\n11\n14 3 10\n10 12 9\n", "aag 1 1 0 0 0\n3\n", "aag 1 2 0 0 0\n2\n2\n", "aag 1 0 0 1 0\n2\n", "aag 1 0 0 0 1\n2 2 2\n",
	"aag 0 0 0 101 0\n" + strings.Repeat("1\n", 101), "aag 0 0 0 0 0\nc\n" + strings.Repeat("x", 40000-16), "aag 0 0 0 0 0\nc\n" + strings.Repeat("x", 40000-15), "aag " + strings.Repeat("x", 1<<20),
}

func TestAnyOfTexts(t *testing.T) {
	seen := map[api.Errno]bool{}
	for _, s := range textsOf {
		want, _, wantError := reader.Circuit(s)
		seen[wantError] = true
		if c, e := binary.Any([]byte(s)); !same(c, want) || e != wantError {
			t.Errorf("Any of %s = %+v, %d; want %+v, %d", short([]byte(s)), c, e, want, wantError)
		}
		if len(s) <= 40000 {
			fails(t, "a text", []byte(s), api.ErrForm)
		} else {
			fails(t, "a long text", []byte(s), api.ErrMany)
		}
	}
	for _, e := range []api.Errno{api.OK, api.ErrMany, api.ErrForm, api.ErrRange, api.ErrMore, api.ErrKind, api.ErrBad, api.ErrTwice, api.ErrOpen, api.ErrCycle} {
		if !seen[e] {
			t.Errorf("no text has the error %d", e)
		}
	}
}

// What does not begin with "aag " is not a text.
func TestAnyOfOtherBytes(t *testing.T) {
	for _, s := range []string{"", "a", "aa", "aag", "aag\n", "aag\t0 0 0 0 0\n", "aag0 0 0 0 0\n", " aag 0 0 0 0 0\n", "Aag 0 0 0 0 0\n", "aaag 0 0 0 0 0\n", "\naag 0 0 0 0 0\n", "abg 0 0 0 0 0\n", "aai 0 0 0 0 0\n", "aig", "aig\n", "aig "} {
		fails(t, "neither bytes nor a text", []byte(s), api.ErrForm)
		fails(t, "neither bytes nor a text, and too long", []byte(s+strings.Repeat("x", 40001)), api.ErrMany)
		if bytes.HasPrefix([]byte(s), []byte("aag ")) {
			t.Fatalf("%q is the beginning of a text", s)
		}
	}
	reads(t, "bytes", []byte("aig 0 0 0 0 0\n"), api.Circuit{})
	reads(t, "bytes that have a text behind them", []byte("aig 0 0 0 0 0\nc\naag 1 1 0 0 0\n2\n"), api.Circuit{})
}
