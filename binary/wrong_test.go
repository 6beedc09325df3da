package binary_test

import (
	"bytes"
	"fmt"
	"math/rand"
	"slices"
	"strings"
	"testing"

	"spiritlevel/api"
	"spiritlevel/binary"
	"spiritlevel/deltas"
	"spiritlevel/gates"
)

// Which error comes first, gates that are not right, and what is read and is not valid.

// fault makes one thing of the tests' example wrong.
type fault struct {
	name   string
	change func(p *parts)
	want   api.Errno
}

func inLine(i int, line string) func(p *parts) { return func(p *parts) { p.lines[i] = line } }

// inGates changes the bytes of the gates; nothing stands behind them then.
func inGates(b ...byte) func(p *parts) { return func(p *parts) { p.gates, p.behind = b, nil } }

func behind(lines ...string) func(p *parts) { return func(p *parts) { p.behind = lines } }

// literalsMore adds bad literals and constraints.
func literalsMore(bads, constraints int) func(p *parts) {
	return func(p *parts) {
		p.lines[0] = "aig " + row(6, 2, 2, 2, 2, 2+bads, 2+constraints)
		p.lines = append(p.lines, slices.Repeat([]string{"0"}, bads+constraints)...)
	}
}

// faults are in the order of their errors; those of one list come together.
func faults() [][]fault {
	return [][]fault{
		{{"too many bytes", behind("c", strings.Repeat("x", 40000)), api.ErrMany}},
		{
			{"no aig", inLine(0, "aag 6 2 2 2 2 2 2 0 0"), api.ErrForm},
			{"a tenth number", inLine(0, "aig 6 2 2 2 2 2 2 0 0 0"), api.ErrForm},
			{"four numbers", inLine(0, "aig 6 2 2 2"), api.ErrForm},
			{"no line feed", func(p *parts) { p.lines, p.gates, p.behind = nil, []byte("aig 6 2 2 2 2 2 2 0 0"), nil }, api.ErrForm},
		},
		{
			{"the variables too great", inLine(0, "aig 1001 2 2 2 2 2 2 0 0"), api.ErrRange},
			{"too many constraints", inLine(0, "aig 6 2 2 2 2 2 1001 0 0"), api.ErrRange},
		},
		{
			{"a justice", inLine(0, "aig 6 2 2 2 2 2 2 1 0"), api.ErrKind},
			{"a fairness constraint", inLine(0, "aig 6 2 2 2 2 2 2 0 1"), api.ErrKind},
		},
		{
			{"a variable more", inLine(0, "aig 7 2 2 2 2 2 2 0 0"), api.ErrBad},
			{"an input less", inLine(0, "aig 6 1 2 2 2 2 2 0 0"), api.ErrBad},
		},
		{
			{"a latch of three numbers", inLine(1, "13 6 0"), api.ErrForm},
			{"an empty latch", inLine(1, ""), api.ErrForm},
			{"a latch with another reset", inLine(2, "0 2"), api.ErrForm},
			{"an output that is a symbol", inLine(3, "o0"), api.ErrForm},
			{"an output with a blank", inLine(4, "1000 "), api.ErrForm},
			{"a bad literal with a zero in front", inLine(5, "012"), api.ErrForm},
			{"a bad literal with a sign", inLine(6, "-1"), api.ErrForm},
			{"a constraint of ten digits", inLine(7, "1000000000"), api.ErrForm},
			{"a constraint that is the end", inLine(8, "c"), api.ErrForm},
			{"a constraint that is not there", func(p *parts) { p.lines, p.gates, p.behind = p.lines[:8], nil, nil }, api.ErrForm},
		},
		{
			{"a first byte 0", inGates(0, 5, 10, 0), api.ErrBad},
			{"a first number too great", inGates(11, 0, 10, 0), api.ErrBad},
			{"a second number too great", inGates(1, 10, 10, 0), api.ErrBad},
			{"a second gate that is itself", inGates(1, 5, 0, 0), api.ErrBad},
			{"a last number too great", inGates(1, 5, 10, 3), api.ErrBad},
			{"a last number with a 0 at its end", inGates(1, 5, 10, 128, 0), api.ErrForm},
			{"a number that is too long", inGates(1, 5, 255, 255, 255, 255, 255), api.ErrRange},
			{"a number that does not end", inGates(1, 5, 10, 128), api.ErrNone},
			{"a number that is not there", inGates(1, 5, 10), api.ErrNone},
			{"no gates", inGates(), api.ErrNone},
		},
		{
			{"a symbol with another letter", behind("i0 a name", "j0 x", "comments"), api.ErrMore},
			{"an empty line behind the gates", behind("", "c"), api.ErrMore},
			{"another gate", func(p *parts) { p.gates = append(p.gates, 1, 1) }, api.ErrMore},
		},
		{
			{"102 bad literals", literalsMore(100, 0), api.ErrMany},
			{"101 bad literals", literalsMore(99, 0), api.ErrMany},
			{"101 constraints", literalsMore(0, 99), api.ErrMany},
		},
		{
			{"a next literal too great", inLine(1, "14 6"), api.ErrBad},
			{"a next literal far too great", inLine(2, "999999999 1"), api.ErrBad},
			{"a bad literal too great", inLine(5, "14"), api.ErrBad},
			{"a constraint too great", inLine(8, "999999999"), api.ErrBad},
		},
	}
}

// with returns the bytes of the tests' example with faults, the first of which is made last.
func with(list ...fault) []byte {
	p := exampleParts()
	for _, f := range slices.Backward(list) {
		f.change(&p)
	}
	return p.bytes()
}

func TestFaultsAlone(t *testing.T) {
	reads(t, "without any", with(), example())
	for _, list := range faults() {
		for _, f := range list {
			fails(t, f.name, with(f), f.want)
			if e := readsAsWanted(t, f.name, with(f)); e != f.want {
				t.Errorf("%s: the reader of the tests has the error %d", f.name, e)
			}
		}
	}
}

// Each error comes before those of the lists behind its own, and before all of these together.
func TestTheFirstOfTwoFaults(t *testing.T) {
	all := faults()
	for i, list := range all {
		later := slices.Concat(all[i+1:]...)
		for _, f := range list {
			if f.want == api.ErrMany && i == 0 {
				// Made first, as other faults take away what stands behind the gates.
				for _, g := range later {
					fails(t, f.name+" and "+g.name, append(with(g), strings.Repeat("c", 40000)...), api.ErrMany)
				}
				continue
			}
			for _, g := range later {
				fails(t, f.name+" and "+g.name, with(f, g), f.want)
			}
		}
	}
}

// In the first line: how it is told, then the range, then the kinds, then the sum.
func TestErrorsOfTheFirstLine(t *testing.T) {
	for _, x := range []struct {
		line string
		want api.Errno
	}{
		{"aig 1001 0 0 0 x", api.ErrForm},
		{"aig 1001 0 0 0", api.ErrForm},
		{"aig 1001 0 0 0 0 0 0 1 01", api.ErrForm},
		{"aig 0 0 0 0 0 0 0 1 0 0", api.ErrForm},
		{"aig 0 0 0 0 0 0 0 1 1 1", api.ErrForm},
		{"aig 0 0 0 0 0 0 0 1000000000", api.ErrForm},
		{"aig 0 0 0 0 0 0 0 1 1000000000", api.ErrForm},
		{"aag 1001 0 0 0 0 0 0 1 1", api.ErrForm},
		{"aig 7 1 1 1", api.ErrForm},
		{"aig 1001 0 0 0 0", api.ErrRange},
		{"aig 1001 1001 0 0 0", api.ErrRange},
		{"aig 1001 0 0 0 0 0 0 1", api.ErrRange},
		{"aig 0 0 0 0 0 0 1001 1 1", api.ErrRange},
		{"aig 0 0 0 1001 0 0 0 0 1", api.ErrRange},
		{"aig 999999999 999999999 999999999 999999999 999999999 999999999 999999999 999999999 999999999", api.ErrRange},
		{"aig 1000 1000 1000 1000 1000 1000 1000 1000 0", api.ErrKind},
		{"aig 1000 1000 1000 1000 1000 1000 1000 0 1001", api.ErrKind},
		{"aig 0 0 0 0 0 0 0 999999999 999999999", api.ErrKind},
		{"aig 1 0 0 0 0 0 0 0 2", api.ErrKind},
		{"aig 1 0 0 0 0 0 0 1", api.ErrKind},
		{"aig 1000 1000 1000 1000 1000 1000 1000 0 0", api.ErrBad},
		{"aig 1 0 0 0 0 1000", api.ErrBad},
		{"aig 0 0 1 1 0", api.ErrBad},
		{"aig 1 0 1 1 0", api.ErrForm},
		{"aig 1 0 0 1 1", api.ErrForm},
		{"aig 0 0 0 0 0 1000", api.ErrForm},
		{"aig 0 0 0 0 0 0 1000", api.ErrForm},
		{"aig 1 0 0 0 1", api.ErrNone},
	} {
		fails(t, "a first line", []byte(x.line+"\n"), x.want)
		fails(t, "a first line and too much", []byte(x.line+"\n"+strings.Repeat("z", 40000)), api.ErrMany)
		if x.want != api.ErrNone {
			for _, behind := range []string{"\n", "z", "z\n", "\n2\n2\n"} {
				fails(t, "a first line", []byte(x.line+"\n"+behind), x.want)
			}
		}
	}
}

// gateBytes are bytes where those of two gates should stand.
func gateBytes(rnd *rand.Rand) []byte {
	b := make([]byte, rnd.Intn(9))
	for i := range b {
		b[i] = []byte{0, 1, 1, 2, 3, 5, 9, 10, 11, 12, 13, 'c', 'i', 127, 128, 129, 255}[rnd.Intn(17)]
	}
	return b
}

// Errors of gates are those of deltas.Unpack, from the first gate's variable on, also if it is not the one behind all others.
func TestErrorsOfGates(t *testing.T) {
	rnd := rand.New(rand.NewSource(103))
	seen := map[api.Errno]int{}
	for range 60000 {
		inputs, latches, n := rnd.Intn(4), rnd.Intn(4), rnd.Intn(4)
		if rnd.Intn(4) == 0 {
			inputs = 60 + rnd.Intn(900)
		}
		lines := append([]string{"aig " + row(inputs+latches+n, inputs, latches, 0, n)}, slices.Repeat([]string{"1"}, latches)...)
		b := gateBytes(rnd)
		ands, size, e := deltas.Unpack(1+inputs+latches, n, b)
		all := inBytes(lines, b...)
		seen[readsAsWanted(t, "gates", all)]++
		if c, got := binary.Read(all); e != api.OK && got != e || got == api.OK && (size > len(b) || !slices.Equal(c.Ands, ands)) {
			t.Errorf("Read of %s = %+v, %d; deltas.Unpack says %+v, %d", short(all), c, got, ands, e)
		}
		if t.Failed() {
			return
		}
	}
	for _, e := range []api.Errno{api.OK, api.ErrNone, api.ErrRange, api.ErrForm, api.ErrBad, api.ErrMore} {
		if seen[e] < 10 {
			t.Errorf("the error %d came %d times", e, seen[e])
		}
	}
}

// Bytes that end within the gates, at each place.
func TestGatesThatAreNotThere(t *testing.T) {
	for _, c := range []api.Circuit{example(), full(), longest(), constant(0, 0, 1000), constant(999, 0, 1)} {
		p := partsIn(c, asWritten())
		for end := 0; end < len(p.gates); end += 1 + end/100 {
			q := p.cloned()
			q.gates = q.gates[:end]
			fails(t, "the gates end", q.bytes(), api.ErrNone)
			// Lines behind the gates are in the place of those that are not there.
			q.behind = []string{"c"}
			readsAsWanted(t, "a line in the place of gates", q.bytes())
		}
		reads(t, "all gates", p.bytes(), c)
		reads(t, "all gates and a line", append(p.bytes(), 'c'), c)
		fails(t, "a gate more", append(p.bytes(), 1, 1), api.ErrMore)
		fails(t, "a byte more", append(p.bytes(), 0), api.ErrMore)
	}
}

// Without gates those of deltas.Unpack are not asked for, which has none behind the last variable.
func TestNoGates(t *testing.T) {
	for _, x := range [][2]int{{0, 0}, {1, 0}, {999, 0}, {1000, 0}, {0, 1000}, {500, 500}, {1, 999}} {
		c := constant(x[0], x[1], 0)
		b := bytesIn(c, asWritten())
		name := fmt.Sprint(x)
		writes(t, name, c, b)
		reads(t, name, b, c)
		reads(t, name+" and a line", append(bytes.Clone(b), "i0 x\n"...), c)
		fails(t, name+" and a byte", append(bytes.Clone(b), 0), api.ErrMore)
		fails(t, name+" and a gate", append(bytes.Clone(b), 1, 1), api.ErrMore)
		fails(t, name+" and a number that does not end", append(bytes.Clone(b), 255), api.ErrMore)
	}
}

// All errors that gates.Check may have of what is read, also behind symbols and comments.
func TestCircuitsThatAreNotValid(t *testing.T) {
	zeros := func(n int) string { return strings.Repeat("0\n", n) }
	for _, x := range []struct {
		name string
		b    string
		want api.Errno
	}{
		{"101 bad literals", "aig 0 0 0 0 0 101\n" + zeros(101), api.ErrMany},
		{"1,000 bad literals", "aig 0 0 0 0 0 1000\n" + zeros(1000), api.ErrMany},
		{"101 constraints", "aig 0 0 0 0 0 0 101\n" + zeros(101), api.ErrMany},
		{"1,000 constraints", "aig 0 0 0 0 0 0 1000\n" + zeros(1000), api.ErrMany},
		{"101 outputs", "aig 0 0 0 101 0\n" + zeros(101), api.ErrMany},
		{"1,000 outputs", "aig 0 0 0 1000 0\n" + zeros(1000), api.ErrMany},
		{"101 outputs and a constraint", "aig 0 0 0 101 0 0 1\n" + zeros(102), api.ErrMany},
		{"101 bad literals and a next literal too great", "aig 1 0 1 101 0\n4\n" + zeros(101), api.ErrMany},
		{"101 constraints that are too great", "aig 0 0 0 0 0 0 101\n" + strings.Repeat("999\n", 101), api.ErrMany},
		{"a next literal above the variables", "aig 1 0 1 0 0\n4\n", api.ErrBad},
		{"a next literal far above them", "aig 1 0 1 0 0\n999999999\n", api.ErrBad},
		{"the second next literal above them", "aig 2 0 2 0 0\n5 1\n6 0\n", api.ErrBad},
		{"a next literal above the greatest ones", "aig 1000 999 1 0 0\n2002 2000\n", api.ErrBad},
		{"a bad literal above the variables", "aig 1 1 0 0 0 1\n4\n", api.ErrBad},
		{"an output above them", "aig 1 1 0 1 0\n4\n", api.ErrBad},
		{"a constraint above them", "aig 1 1 0 0 0 0 1\n4\n", api.ErrBad},
		{"a constraint far above them", "aig 0 0 0 0 0 0 1\n999999999\n", api.ErrBad},
		{"a bad literal above gates", "aig 2 1 0 0 1 1\n6\n\x01\x03", api.ErrBad},
	} {
		fails(t, x.name, []byte(x.b), x.want)
		fails(t, x.name+", with symbols", []byte(x.b+"i0 x\nc\nz\n"), x.want)
		fails(t, x.name+", with another line behind it", []byte(x.b+"z\n"), api.ErrMore)
		fails(t, x.name+", in too many bytes", []byte(x.b+"c\n"+strings.Repeat("z", 40000)), api.ErrMany)
	}
}

// Just as many as there may be, and the greatest literals.
func TestCircuitsThatAreJustValid(t *testing.T) {
	hundred := slices.Repeat([]int{3}, 100)
	for _, c := range []api.Circuit{
		{Inputs: 1, Bads: hundred},
		{Inputs: 1, Constraints: hundred},
		{Inputs: 1, Bads: hundred, Constraints: hundred},
		{Inputs: 1000, Bads: []int{2001}, Constraints: []int{2001}},
		{Latches: []api.Latch{{Next: 3, Reset: api.ReAny}}, Bads: []int{3}},
		{Inputs: 999, Ands: []api.And{{A: 1999, B: 1999}}, Bads: []int{2001}},
	} {
		if e := gates.Check(c); e != api.OK {
			t.Fatalf("gates.Check(%+v) = %d", c, e)
		}
		for _, s := range []style{asWritten(), {asBad: true}, {outputs: []int{999999999, 0}, counts: 9, zeros: true}} {
			reads(t, "just valid", bytesIn(c, s), c)
		}
	}
}
