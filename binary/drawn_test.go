package binary_test

import (
	"bytes"
	varint "encoding/binary"
	"fmt"
	"iter"
	"math/rand"
	"regexp"
	"slices"
	"strconv"
	"strings"
	"testing"

	"spiritlevel/api"
	"spiritlevel/binary"
	"spiritlevel/deltas"
	"spiritlevel/gates"
)

// What the tests have in common: circuits, how they are written, and a reader that works in another way than the package.

// example has two of each: the inputs 1 and 2, the latches 3 and 4, the gates 5 and 6. The bytes of its gates have a line feed among them, and end with 0.
func example() api.Circuit {
	return api.Circuit{
		Inputs:      2,
		Latches:     []api.Latch{{Next: 13, Reset: api.ReAny}, {Next: 0, Reset: api.ReOne}},
		Ands:        []api.And{{A: 9, B: 4}, {A: 2, B: 2}},
		Bads:        []int{12, 1},
		Constraints: []int{5, 11},
	}
}

// exampleParts are the parts of bytes of it, with two outputs that do not count, and two lines behind the gates.
func exampleParts() parts {
	return parts{
		lines:  []string{"aig 6 2 2 2 2 2 2 0 0", "13 6", "0 1", "7", "1000", "12", "1", "5", "11"},
		gates:  []byte{1, 5, 10, 0},
		behind: []string{"i0 a name", "comments"},
	}
}

// parts are lines, each of them with a line feed behind it, the bytes of gates, and lines behind these.
type parts struct {
	lines  []string
	gates  []byte
	behind []string
	open   bool // whether the last line behind the gates has no line feed, if it may be so
}

func (p parts) bytes() []byte {
	behind := joined(p.behind...)
	if p.open && len(p.behind) > 0 && p.behind[len(p.behind)-1] != "" {
		behind = behind[:len(behind)-1]
	}
	return slices.Concat([]byte(joined(p.lines...)), p.gates, []byte(behind))
}

// cloned returns the same parts, the lists of which may be changed.
func (p parts) cloned() parts {
	return parts{slices.Clone(p.lines), bytes.Clone(p.gates), slices.Clone(p.behind), p.open}
}

// joined returns the text of lines, each of which has a line feed behind it.
func joined(lines ...string) string {
	var b strings.Builder
	for _, line := range lines {
		b.WriteString(line + "\n")
	}
	return b.String()
}

// full has all variables up to 1,000, with 100 bad literals and constraints.
func full() api.Circuit {
	c := api.Circuit{Inputs: 300}
	for i := range 300 {
		c.Latches = append(c.Latches, api.Latch{Next: 2001 - i, Reset: i % 3})
	}
	for i := range 400 {
		c.Ands = append(c.Ands, api.And{A: 1201 + i, B: 3 * i})
	}
	for i := range 100 {
		c.Bads, c.Constraints = append(c.Bads, 2001-7*i), append(c.Constraints, 11*i)
	}
	return c
}

// longest has the longest bytes of all circuits with as many gates: all numbers that may have four digits, or two bytes, have them.
func longest() api.Circuit {
	c := api.Circuit{Bads: slices.Repeat([]int{2001}, 100), Constraints: slices.Repeat([]int{1001}, 100)}
	for i := range 500 {
		c.Latches = append(c.Latches, api.Latch{Next: 1001 + i, Reset: api.ReAny})
		c.Ands = append(c.Ands, api.And{A: 129 + i, B: i % 2})
	}
	return c
}

// constant returns a circuit with so many inputs, latches and gates of constants.
func constant(inputs, latches, ands int) api.Circuit {
	c := api.Circuit{Inputs: inputs}
	for i := range latches {
		c.Latches = append(c.Latches, api.Latch{Next: i % 2, Reset: i % 3})
	}
	for i := range ands {
		c.Ands = append(c.Ands, api.And{A: 1, B: i % 2})
	}
	return c
}

// drawnCircuit returns a valid circuit.
func drawnCircuit(rnd *rand.Rand, size int) api.Circuit {
	c := api.Circuit{Inputs: rnd.Intn(size + 1)}
	latches, ands := rnd.Intn(size+1), rnd.Intn(2*size+1)
	last := c.Inputs + latches + ands
	lit := func() int { return rnd.Intn(2*last + 2) }
	for range latches {
		c.Latches = append(c.Latches, api.Latch{Next: lit(), Reset: rnd.Intn(3)})
	}
	for v := 1 + c.Inputs + latches; v <= last; v++ {
		a := []int{0, 2*v - 1, rnd.Intn(2 * v), rnd.Intn(2 * v)}[rnd.Intn(4)]
		c.Ands = append(c.Ands, api.And{A: a, B: []int{0, a, rnd.Intn(a + 1), rnd.Intn(a + 1)}[rnd.Intn(4)]})
	}
	for range rnd.Intn(4) {
		c.Bads = append(c.Bads, lit())
	}
	for range rnd.Intn(4) {
		c.Constraints = append(c.Constraints, lit())
	}
	return c
}

// circuits yields valid circuits of many sizes, with the least and greatest ones.
func circuits() iter.Seq[api.Circuit] {
	return func(yield func(api.Circuit) bool) {
		rnd := rand.New(rand.NewSource(101))
		for round := range 300 {
			if !yield(drawnCircuit(rnd, round/10)) {
				return
			}
		}
		for _, c := range []api.Circuit{{}, example(), full(), longest(), constant(1000, 0, 0), constant(0, 1000, 0), constant(0, 0, 1000), constant(999, 0, 1), constant(1, 998, 1), constant(300, 700, 0), drawnCircuit(rnd, 240)} {
			if !yield(c) {
				return
			}
		}
	}
}

// style is how a circuit is written.
type style struct {
	counts  int      // how many numbers the first line has, if it may have so few
	zeros   bool     // whether the reset ReZero is told
	asBad   bool     // whether outputs stand for the bad literals
	outputs []int    // outputs that do not count, if there are bad literals
	behind  []string // lines behind the gates
	open    bool     // whether there is no line feed at the end
}

// drawnStyle returns any style, with outputs and lines behind the gates as they come.
func drawnStyle(rnd *rand.Rand) style {
	s := style{counts: 5 + rnd.Intn(5), zeros: rnd.Intn(2) == 0, asBad: rnd.Intn(2) == 0, open: rnd.Intn(4) == 0}
	for range rnd.Intn(3) {
		s.outputs = append(s.outputs, rnd.Intn(1000000000)>>rnd.Intn(30))
	}
	for range rnd.Intn(4) {
		s.behind = append(s.behind, []string{"i0 x", "l1 y z", "o0", "b", "comment"}[rnd.Intn(5)])
	}
	if rnd.Intn(2) == 0 {
		s.behind = append(s.behind, "c")
		for range rnd.Intn(3) {
			s.behind = append(s.behind, []string{"", " ", "c", "j0 x", "1 2 3", "\x00\xff"}[rnd.Intn(6)])
		}
	}
	return s
}

// partsIn returns the parts of a circuit's bytes in a style.
func partsIn(c api.Circuit, s style) parts {
	outputs, bads := s.outputs, c.Bads
	if len(bads) == 0 {
		outputs = nil
	} else if s.asBad {
		outputs, bads = bads, nil
	}
	counts := []int{c.Inputs + len(c.Latches) + len(c.Ands), c.Inputs, len(c.Latches), len(outputs), len(c.Ands), len(bads), len(c.Constraints), 0, 0}
	for len(counts) > max(5, s.counts) && counts[len(counts)-1] == 0 {
		counts = counts[:len(counts)-1]
	}
	p := parts{lines: []string{"aig " + row(counts...)}, behind: s.behind, open: s.open}
	for i, l := range c.Latches {
		told := []int{l.Next, []int{0, 1, 2 * (1 + c.Inputs + i)}[l.Reset]}
		if l.Reset == api.ReZero && !s.zeros {
			told = told[:1]
		}
		p.lines = append(p.lines, row(told...))
	}
	for _, l := range slices.Concat(outputs, bads, c.Constraints) {
		p.lines = append(p.lines, row(l))
	}
	for i, g := range c.Ands {
		own := 2 * (1 + c.Inputs + len(c.Latches) + i)
		p.gates = varint.AppendUvarint(p.gates, uint64(own-g.A))
		p.gates = varint.AppendUvarint(p.gates, uint64(g.A-g.B))
	}
	return p
}

func bytesIn(c api.Circuit, s style) []byte { return partsIn(c, s).bytes() }

// asWritten is the style in which Write writes.
func asWritten() style { return style{counts: 7} }

func row(list ...int) string { return strings.Trim(fmt.Sprint(list), "[]") }

// Lines that are as the chapter tells them.
var (
	number    = `(?:0|[1-9][0-9]{0,8})`
	firstForm = regexp.MustCompile(`\A(?:aig)(?: ` + number + `){5,9}\z`)
	oneForm   = regexp.MustCompile(`\A` + number + `\z`)
	latchForm = regexp.MustCompile(`\A` + number + `(?: ` + number + `)?\z`)
	lastForm  = regexp.MustCompile(`\A[ilobc]`)
)

// numbers returns the numbers in a line that has its form.
func numbers(line string) []int {
	var list []int
	for word := range strings.FieldsSeq(strings.TrimPrefix(line, "aig")) {
		n, err := strconv.Atoi(word)
		if err != nil {
			panic(err)
		}
		list = append(list, n)
	}
	return list
}

// wanted reads bytes as the chapter tells it.
func wanted(b []byte) (api.Circuit, api.Errno) {
	if len(b) > 40000 {
		return api.Circuit{}, api.ErrMany
	}
	left := string(b)
	first, ok := cutLine(&left)
	if !ok || !firstForm.MatchString(first) {
		return api.Circuit{}, api.ErrForm
	}
	counts := append(numbers(first), 0, 0, 0, 0)[:9]
	for _, n := range counts[:7] {
		if n > 1000 {
			return api.Circuit{}, api.ErrRange
		}
	}
	if counts[7] != 0 || counts[8] != 0 {
		return api.Circuit{}, api.ErrKind
	}
	if counts[0] != counts[1]+counts[2]+counts[4] {
		return api.Circuit{}, api.ErrBad
	}
	c, e := wantedLines(counts, &left)
	if e != api.OK {
		return api.Circuit{}, e
	}
	if n := counts[4]; n > 0 {
		ands, size, e := deltas.Unpack(1+counts[1]+counts[2], n, []byte(left))
		if e != api.OK {
			return api.Circuit{}, e
		}
		c.Ands, left = ands, left[size:]
	}
	for line := range strings.Lines(left) {
		line = strings.TrimSuffix(line, "\n")
		if line == "c" {
			break
		}
		if !lastForm.MatchString(line) {
			return api.Circuit{}, api.ErrMore
		}
	}
	if e := gates.Check(c); e != api.OK {
		return api.Circuit{}, e
	}
	return c, api.OK
}

// cutLine takes the next line, if a line feed ends it.
func cutLine(left *string) (string, bool) {
	at := strings.IndexByte(*left, 10)
	if at < 0 {
		return "", false
	}
	line := (*left)[:at]
	*left = (*left)[at+1:]
	return line, true
}

// wantedLines reads the lines between the first one and the gates.
func wantedLines(counts []int, left *string) (api.Circuit, api.Errno) {
	c := api.Circuit{Inputs: counts[1]}
	var lists [4][][]int
	for k, part := range []struct {
		form  *regexp.Regexp
		count int
	}{{latchForm, counts[2]}, {oneForm, counts[3]}, {oneForm, counts[5]}, {oneForm, counts[6]}} {
		for range part.count {
			line, ok := cutLine(left)
			if !ok || !part.form.MatchString(line) {
				return c, api.ErrForm
			}
			lists[k] = append(lists[k], numbers(line))
		}
	}
	for i, list := range lists[0] {
		reset, ok := api.ReZero, true
		if len(list) == 2 {
			reset, ok = map[int]int{0: api.ReZero, 1: api.ReOne, 2 * (1 + counts[1] + i): api.ReAny}[list[1]]
		}
		if !ok {
			return c, api.ErrForm
		}
		c.Latches = append(c.Latches, api.Latch{Next: list[0], Reset: reset})
	}
	c.Bads, c.Constraints = slices.Concat(lists[2]...), slices.Concat(lists[3]...)
	if counts[5] == 0 {
		c.Bads = slices.Concat(lists[1]...)
	}
	return c, api.OK
}

// same tells whether circuits are equal, where nil and empty lists are.
func same(a, b api.Circuit) bool {
	return a.Inputs == b.Inputs && slices.Equal(a.Latches, b.Latches) && slices.Equal(a.Ands, b.Ands) && slices.Equal(a.Bads, b.Bads) && slices.Equal(a.Constraints, b.Constraints)
}

// short returns what may be printed of bytes.
func short(b []byte) string {
	if len(b) > 400 {
		return fmt.Sprintf("%q, and so on up to %d bytes", b[:400], len(b))
	}
	return strconv.Quote(string(b))
}

// writes tests that a circuit has these bytes.
func writes(t *testing.T, name string, c api.Circuit, want []byte) {
	t.Helper()
	if b, e := binary.Write(c); !bytes.Equal(b, want) || e != api.OK {
		t.Errorf("%s: Write(%+v) = %s, %d; want %s", name, c, short(b), e, short(want))
	}
}

// reads tests that bytes are read as a circuit, also by Any.
func reads(t *testing.T, name string, b []byte, want api.Circuit) {
	t.Helper()
	if c, e := binary.Read(b); !same(c, want) || e != api.OK {
		t.Errorf("%s: Read of %s = %+v, %d; want %+v", name, short(b), c, e, want)
	}
	if c, e := binary.Any(b); !same(c, want) || e != api.OK {
		t.Errorf("%s: Any of %s = %+v, %d; want %+v", name, short(b), c, e, want)
	}
}

// fails tests that Read returns the error, and nothing else; and so does Any, unless they are a text.
func fails(t *testing.T, name string, b []byte, want api.Errno) {
	t.Helper()
	if c, e := binary.Read(b); !same(c, api.Circuit{}) || e != want {
		t.Errorf("%s: Read of %s = %+v, %d; want the error %d", name, short(b), c, e, want)
	}
	if bytes.HasPrefix(b, []byte("aag ")) {
		return
	}
	if c, e := binary.Any(b); !same(c, api.Circuit{}) || e != want {
		t.Errorf("%s: Any of %s = %+v, %d; want the error %d", name, short(b), c, e, want)
	}
}

// readsAsWanted tests that bytes are read as by the reader of the tests, and tells how.
func readsAsWanted(t *testing.T, name string, b []byte) api.Errno {
	t.Helper()
	want, e := wanted(b)
	if e != api.OK {
		fails(t, name, b, e)
	} else {
		reads(t, name, b, want)
	}
	return e
}
