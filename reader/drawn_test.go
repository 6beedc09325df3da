package reader_test

import (
	"fmt"
	"iter"
	"math/rand"
	"regexp"
	"slices"
	"strconv"
	"strings"
	"testing"

	"spiritlevel/api"
	"spiritlevel/order"
	"spiritlevel/reader"
)

// What the tests have in common: raw circuits, how they are written, and a reader that works in another way than the package.

// example has two of each: the inputs 12 and 2, the latches 8 and 4, the gates 14 and 10, the first of which has the second one as a part; the variable 3 is not defined, nor are 8 and 9.
func example() api.Raw {
	return api.Raw{
		Most:        9,
		Inputs:      []int{12, 2},
		Latches:     []api.Define{{Lit: 8, A: 15, B: api.ReAny}, {Lit: 4, A: 0, B: api.ReOne}},
		Ands:        []api.Define{{Lit: 14, A: 3, B: 10}, {Lit: 10, A: 12, B: 9}},
		Bads:        []int{14, 1},
		Constraints: []int{5, 11},
	}
}

// exampleLines are the lines of a text of it, with two outputs that do not count, and two lines behind the gates.
func exampleLines() []string {
	return []string{"aag 9 2 2 2 2 2 2 0 0", "12", "2", "8 15 8", "4 0 1", "7", "1000", "14", "1", "5", "11", "14 3 10", "10 12 9", "i0 a name", "comments"}
}

// joined returns the text of lines, each of which has a line feed behind it.
func joined(lines ...string) string {
	var b strings.Builder
	for _, line := range lines {
		b.WriteString(line + "\n")
	}
	return b.String()
}

// full defines all variables up to 1,000, each gate before its parts, with 100 bad literals and constraints.
func full() api.Raw {
	r := api.Raw{Most: 1000}
	for i := range 300 {
		r.Inputs = append(r.Inputs, 2*(1000-i))
		r.Latches = append(r.Latches, api.Define{Lit: 2 * (401 + i), A: 2001 - i, B: i % 3})
	}
	for i := range 399 {
		r.Ands = append(r.Ands, api.Define{Lit: 2 * (1 + i), A: 2*(2+i) + i%2, B: 2*(401+i) + 1})
	}
	r.Ands = append(r.Ands, api.Define{Lit: 800, A: 2000, B: 802})
	for i := range 100 {
		r.Bads, r.Constraints = append(r.Bads, 2001-7*i), append(r.Constraints, 11*i)
	}
	return r
}

// longest has the longest text of all raw circuits with as many gates: all numbers that may have four digits have them.
func longest() api.Raw {
	r := api.Raw{Most: 1000, Bads: slices.Repeat([]int{2001}, 100), Constraints: slices.Repeat([]int{1001}, 100)}
	for i := range 500 {
		r.Latches = append(r.Latches, api.Define{Lit: 2 * (501 + i), A: 1001 + i, B: api.ReAny})
		r.Ands = append(r.Ands, api.Define{Lit: 2 * (1 + i), A: 2001 - i, B: 1002 + i})
	}
	return r
}

// drawnRaw returns a valid raw circuit: its variables are numbered in any way, and gates and parts stand in any order.
func drawnRaw(rnd *rand.Rand, size int) api.Raw {
	inputs, latches, ands := rnd.Intn(size+1), rnd.Intn(size+1), rnd.Intn(2*size+1)
	r := api.Raw{Most: inputs + latches + ands + rnd.Intn(3)*rnd.Intn(4)}
	vars := []int{0}
	for _, v := range rnd.Perm(r.Most) {
		vars = append(vars, 1+v)
	}
	lit := func(below int) int { return 2*vars[rnd.Intn(below)] + rnd.Intn(2) }
	last := inputs + latches + ands
	for i := range inputs {
		r.Inputs = append(r.Inputs, 2*vars[1+i])
	}
	for i := range latches {
		r.Latches = append(r.Latches, api.Define{Lit: 2 * vars[1+inputs+i], A: lit(1 + last), B: rnd.Intn(3)})
	}
	for i := range ands {
		own := 1 + inputs + latches + i
		r.Ands = append(r.Ands, api.Define{Lit: 2 * vars[own], A: lit(own), B: lit(own)})
	}
	rnd.Shuffle(ands, func(i, j int) { r.Ands[i], r.Ands[j] = r.Ands[j], r.Ands[i] })
	for range rnd.Intn(4) {
		r.Bads = append(r.Bads, lit(1+last))
	}
	for range rnd.Intn(4) {
		r.Constraints = append(r.Constraints, lit(1+last))
	}
	return r
}

// raws yields valid raw circuits of many sizes, with the least and greatest ones.
func raws() iter.Seq[api.Raw] {
	return func(yield func(api.Raw) bool) {
		rnd := rand.New(rand.NewSource(81))
		for round := range 300 {
			if !yield(drawnRaw(rnd, round/10)) {
				return
			}
		}
		for _, r := range []api.Raw{{}, {Most: 1000}, example(), full(), longest(), drawnRaw(rnd, 240)} {
			if !yield(r) {
				return
			}
		}
	}
}

// style is how a raw circuit is written.
type style struct {
	counts  int      // how many numbers the first line has, if it may have so few
	zeros   bool     // whether the reset ReZero is told
	asBad   bool     // whether outputs stand for the bad literals
	outputs []int    // outputs that do not count, if there are bad literals
	behind  []string // lines behind the gates
	open    bool     // whether there is no line feed at the end
}

// drawnStyle returns any style, with outputs and lines behind the gates as they come.
func drawnStyle(rnd *rand.Rand) style {
	s := style{counts: 5 + rnd.Intn(5), zeros: rnd.Intn(2) == 0, asBad: rnd.Intn(2) == 0, open: rnd.Intn(4) == 0}
	for range rnd.Intn(3) {
		s.outputs = append(s.outputs, rnd.Intn(1000000000)>>rnd.Intn(30))
	}
	for range rnd.Intn(4) {
		s.behind = append(s.behind, []string{"i0 x", "l1 y z", "o0", "b", "comment"}[rnd.Intn(5)])
	}
	if rnd.Intn(2) == 0 {
		s.behind = append(s.behind, "c")
		for range rnd.Intn(3) {
			s.behind = append(s.behind, []string{"", " ", "c", "j0 x", "1 2 3", "\x00\xff"}[rnd.Intn(6)])
		}
	}
	return s
}

// linesIn returns the lines of a raw circuit in a style.
func linesIn(r api.Raw, s style) []string {
	outputs, bads := s.outputs, r.Bads
	if len(bads) == 0 {
		outputs = nil
	} else if s.asBad {
		outputs, bads = bads, nil
	}
	counts := []int{r.Most, len(r.Inputs), len(r.Latches), len(outputs), len(r.Ands), len(bads), len(r.Constraints), 0, 0}
	for len(counts) > max(5, s.counts) && counts[len(counts)-1] == 0 {
		counts = counts[:len(counts)-1]
	}
	lines := []string{"aag " + row(counts...)}
	for _, l := range r.Inputs {
		lines = append(lines, row(l))
	}
	for _, d := range r.Latches {
		told := []int{d.Lit, d.A, []int{0, 1, d.Lit}[d.B]}
		if d.B == api.ReZero && !s.zeros {
			told = told[:2]
		}
		lines = append(lines, row(told...))
	}
	for _, l := range slices.Concat(outputs, bads, r.Constraints) {
		lines = append(lines, row(l))
	}
	for _, d := range r.Ands {
		lines = append(lines, row(d.Lit, d.A, d.B))
	}
	return append(lines, s.behind...)
}

func row(list ...int) string { return strings.Trim(fmt.Sprint(list), "[]") }

// textIn returns the text of a raw circuit in a style.
func textIn(r api.Raw, s style) string {
	lines := linesIn(r, s)
	if s.open && lines[len(lines)-1] != "" {
		return strings.Join(lines, "\n")
	}
	return joined(lines...)
}

// Lines that are as the chapter tells them.
var (
	number    = `(?:0|[1-9][0-9]{0,8})`
	firstForm = regexp.MustCompile(`\A(?:aag)(?: ` + number + `){5,9}\z`)
	oneForm   = regexp.MustCompile(`\A` + number + `\z`)
	latchForm = regexp.MustCompile(`\A` + number + ` ` + number + `(?: ` + number + `)?\z`)
	gateForm  = regexp.MustCompile(`\A` + number + ` ` + number + ` ` + number + `\z`)
	lastForm  = regexp.MustCompile(`\A[ilobc]`)
)

// numbers returns the numbers in a line that has its form.
func numbers(line string) []int {
	var list []int
	for word := range strings.FieldsSeq(strings.TrimPrefix(line, "aag")) {
		n, err := strconv.Atoi(word)
		if err != nil {
			panic(err)
		}
		list = append(list, n)
	}
	return list
}

// wanted reads a text as the chapter tells it.
func wanted(s string) (api.Raw, int, api.Errno) {
	if len(s) > 40000 {
		return api.Raw{}, 0, api.ErrMany
	}
	var lines []string
	for line := range strings.Lines(s) {
		lines = append(lines, strings.TrimSuffix(line, "\n"))
	}
	if len(lines) == 0 || !firstForm.MatchString(lines[0]) {
		return api.Raw{}, 1, api.ErrForm
	}
	counts := append(numbers(lines[0]), 0, 0, 0, 0)[:9]
	for i, n := range counts {
		if i < 7 && n > 1000 {
			return api.Raw{}, 1, api.ErrRange
		}
	}
	if counts[7] != 0 || counts[8] != 0 {
		return api.Raw{}, 1, api.ErrKind
	}
	parts, at, e := wantedParts(lines, counts)
	if e != api.OK {
		return api.Raw{}, at, e
	}
	for ; at < len(lines) && lines[at] != "c"; at++ {
		if !lastForm.MatchString(lines[at]) {
			return api.Raw{}, 1 + at, api.ErrMore
		}
	}
	r := wantedRaw(parts)
	r.Most = counts[0]
	if counts[5] == 0 {
		r.Bads = slices.Concat(parts[2]...)
	}
	if e := order.Check(r); e != api.OK {
		return api.Raw{}, 0, e
	}
	return r, 0, api.OK
}

// wantedParts returns the numbers of all lines up to the last gate's, by their places in the text, and how many lines these are; or the number of a line that is not as told.
func wantedParts(lines []string, counts []int) (parts [6][][]int, at int, e api.Errno) {
	at = 1
	for k, part := range []struct {
		form  *regexp.Regexp
		count int
	}{{oneForm, counts[1]}, {latchForm, counts[2]}, {oneForm, counts[3]}, {oneForm, counts[5]}, {oneForm, counts[6]}, {gateForm, counts[4]}} {
		for range part.count {
			if at >= len(lines) || !part.form.MatchString(lines[at]) {
				return parts, 1 + at, api.ErrForm
			}
			list := numbers(lines[at])
			if k == 1 && len(list) == 3 && list[2] > 1 && list[2] != list[0] {
				return parts, 1 + at, api.ErrForm
			}
			parts[k] = append(parts[k], list)
			at++
		}
	}
	return parts, at, api.OK
}

func wantedRaw(parts [6][][]int) api.Raw {
	r := api.Raw{Inputs: slices.Concat(parts[0]...), Bads: slices.Concat(parts[3]...), Constraints: slices.Concat(parts[4]...)}
	for _, list := range parts[1] {
		d := api.Define{Lit: list[0], A: list[1]}
		if len(list) == 3 {
			d.B = map[int]int{0: 0, 1: 1, d.Lit: 2}[list[2]]
		}
		r.Latches = append(r.Latches, d)
	}
	for _, list := range parts[5] {
		r.Ands = append(r.Ands, api.Define{Lit: list[0], A: list[1], B: list[2]})
	}
	return r
}

// same tells whether raw circuits are equal, where nil and empty lists are.
func same(a, b api.Raw) bool {
	return a.Most == b.Most && slices.Equal(a.Inputs, b.Inputs) && slices.Equal(a.Latches, b.Latches) && slices.Equal(a.Ands, b.Ands) && slices.Equal(a.Bads, b.Bads) && slices.Equal(a.Constraints, b.Constraints)
}

func sameCircuit(a, b api.Circuit) bool {
	return a.Inputs == b.Inputs && slices.Equal(a.Latches, b.Latches) && slices.Equal(a.Ands, b.Ands) && slices.Equal(a.Bads, b.Bads) && slices.Equal(a.Constraints, b.Constraints)
}

// short returns what may be printed of a text.
func short(s string) string {
	if len(s) > 400 {
		return fmt.Sprintf("%q, and so on up to %d bytes", s[:400], len(s))
	}
	return strconv.Quote(s)
}

// reads tests that a text is read as a raw circuit, and as the circuit of this.
func reads(t *testing.T, name, s string, want api.Raw) {
	t.Helper()
	circuit, _, e := order.Circuit(want)
	if e != api.OK {
		t.Fatalf("%s: order.Circuit(%+v): error %d", name, want, e)
	}
	if r, line, e := reader.Raw(s); !same(r, want) || line != 0 || e != api.OK {
		t.Errorf("%s: Raw of %s = %+v, %d, %d; want %+v", name, short(s), r, line, e, want)
	}
	if c, line, e := reader.Circuit(s); !sameCircuit(c, circuit) || line != 0 || e != api.OK {
		t.Errorf("%s: Circuit of %s = %+v, %d, %d; want %+v", name, short(s), c, line, e, circuit)
	}
}

// fails tests that both functions return the error and the number, and nothing else.
func fails(t *testing.T, name, s string, line int, want api.Errno) {
	t.Helper()
	if r, n, e := reader.Raw(s); !same(r, api.Raw{}) || n != line || e != want {
		t.Errorf("%s: Raw of %s = %+v, %d, %d; want error %d in the line %d", name, short(s), r, n, e, want, line)
	}
	if c, n, e := reader.Circuit(s); !sameCircuit(c, api.Circuit{}) || n != line || e != want {
		t.Errorf("%s: Circuit of %s = %+v, %d, %d; want error %d in the line %d", name, short(s), c, n, e, want, line)
	}
}

// readsAsWanted tests that a text is read as by the reader of the tests.
func readsAsWanted(t *testing.T, name, s string) {
	t.Helper()
	if want, line, e := wanted(s); e != api.OK {
		fails(t, name, s, line, e)
	} else {
		reads(t, name, s, want)
	}
}
