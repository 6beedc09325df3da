package reader_test

import (
	"fmt"
	"slices"
	"strings"
	"testing"

	"spiritlevel/api"
	"spiritlevel/order"
)

// Which error comes first, and what is read and is not valid.

// fault makes one line of the tests' example wrong; the first one has the number 1, and order.Check's errors have none.
type fault struct {
	name string
	at   int // the line that becomes another one
	put  string
	line int
	want api.Errno
}

// lineFaults are in the order of their lines, and in each line in that of the errors.
func lineFaults() []fault {
	return []fault{
		{"no aag", 1, "aig 9 2 2 2 2 2 2 0 0", 1, api.ErrForm},
		{"a tenth number", 1, "aag 9 2 2 2 2 2 2 0 0 0", 1, api.ErrForm},
		{"Most too great", 1, "aag 1001 2 2 2 2 2 2 0 0", 1, api.ErrRange},
		{"too many constraints", 1, "aag 9 2 2 2 2 2 1001 0 0", 1, api.ErrRange},
		{"a justice", 1, "aag 9 2 2 2 2 2 2 1 0", 1, api.ErrKind},
		{"a fairness constraint", 1, "aag 9 2 2 2 2 2 2 0 1", 1, api.ErrKind},
		{"an input of two numbers", 2, "12 2", 2, api.ErrForm},
		{"an empty input", 3, "", 3, api.ErrForm},
		{"a latch of one number", 4, "8", 4, api.ErrForm},
		{"a latch with another reset", 5, "4 0 2", 5, api.ErrForm},
		{"an output that is a symbol", 6, "o0", 6, api.ErrForm},
		{"an output with a blank", 7, "1000 ", 7, api.ErrForm},
		{"a bad literal with a zero in front", 8, "014", 8, api.ErrForm},
		{"a bad literal with a sign", 9, "-1", 9, api.ErrForm},
		{"a constraint of ten digits", 10, "1000000000", 10, api.ErrForm},
		{"a constraint that is the end", 11, "c", 11, api.ErrForm},
		{"a gate of two numbers", 12, "14 3", 12, api.ErrForm},
		{"a gate of four numbers", 13, "10 12 9 0", 13, api.ErrForm},
		{"a symbol with another letter", 14, "j0 x", 14, api.ErrMore},
		{"an empty line behind the gates", 15, "", 15, api.ErrMore},
	}
}

// rawFaults are lines that are as told, in the order of order.Check's errors.
func rawFaults() []fault {
	return []fault{
		{"an odd input", 2, "13", 0, api.ErrBad},
		{"an input too great", 2, "20", 0, api.ErrBad},
		{"a latch 0", 4, "0 15 0", 0, api.ErrBad},
		{"a next literal too great", 5, "4 999999999", 0, api.ErrBad},
		{"a bad literal too great", 8, "20", 0, api.ErrBad},
		{"a constraint too great", 10, "999999999", 0, api.ErrBad},
		{"a part too great", 12, "14 3 20", 0, api.ErrBad},
		{"a gate 1", 13, "1 12 9", 0, api.ErrBad},
		{"an input twice", 3, "12", 0, api.ErrTwice},
		{"a gate that is a latch", 13, "8 12 9", 0, api.ErrTwice},
		{"an open next literal", 5, "4 6 1", 0, api.ErrOpen},
		{"an open bad literal", 9, "19", 0, api.ErrOpen},
		{"an open constraint", 11, "7", 0, api.ErrOpen},
		{"an open part", 12, "14 3 16", 0, api.ErrOpen},
		{"a gate of itself", 13, "10 12 11", 0, api.ErrCycle},
		{"two gates of each other", 13, "10 14 9", 0, api.ErrCycle},
	}
}

func with(list ...fault) string {
	lines := exampleLines()
	for _, f := range list {
		lines[f.at-1] = f.put
	}
	return joined(lines...)
}

func TestFaultsAlone(t *testing.T) {
	reads(t, "without any", with(), example())
	for _, f := range slices.Concat(lineFaults(), rawFaults()) {
		fails(t, f.name, with(f), f.line, f.want)
	}
}

// The first line that is wrong counts, whatever stands in the lines behind it; order.Check's errors come behind all of these.
func TestTheFirstOfTwoFaults(t *testing.T) {
	all := slices.Concat(lineFaults(), rawFaults())
	for i, f := range lineFaults() {
		for _, g := range all[i+1:] {
			if f.at != g.at {
				fails(t, f.name+" and "+g.name, with(g, f), f.line, f.want)
			}
		}
		fails(t, f.name+" and no more lines", strings.Join(strings.Split(with(f), "\n")[:f.at], "\n")+"\n", f.line, f.want)
		fails(t, f.name+" and all behind it", with(append(slices.Clone(all[i+1:20]), f)...), f.line, f.want)
		fails(t, f.name+" in a text too long", with(f)+strings.Repeat("c", 40000), 0, api.ErrMany)
	}
	for i, f := range rawFaults() {
		for _, g := range rawFaults()[i+1:] {
			if f.at != g.at && f.want != g.want && order.Check(rawOf(t, with(g, f))) != f.want {
				t.Fatalf("%s and %s: order.Check says another error", f.name, g.name)
			}
			if f.at != g.at && f.want != g.want {
				fails(t, f.name+" and "+g.name, with(g, f), 0, f.want)
			}
		}
		fails(t, f.name+" in a text too long", with(f)+strings.Repeat("c", 40000), 0, api.ErrMany)
		fails(t, f.name+" behind which the text ends", with(f)+"c\n\nz", 0, f.want)
	}
}

// rawOf returns the raw circuit that is told by the lines of a text, valid or not.
func rawOf(t *testing.T, s string) api.Raw {
	t.Helper()
	lines := strings.Split(s, "\n")
	parts, _, e := wantedParts(lines, numbers(lines[0]))
	if e != api.OK {
		t.Fatalf("%s is not as told", short(s))
	}
	r := wantedRaw(parts)
	r.Most = numbers(lines[0])[0]
	return r
}

// In the first line: how it is told, then the range, then the kinds.
func TestErrorsOfTheFirstLine(t *testing.T) {
	for _, x := range []struct {
		line string
		want api.Errno
	}{
		{"aag 1001 0 0 0 x", api.ErrForm},
		{"aag 1001 0 0 0", api.ErrForm},
		{"aag 1001 0 0 0 0 0 0 1 01", api.ErrForm},
		{"aag 0 0 0 0 0 0 0 1 0 0", api.ErrForm},
		{"aag 0 0 0 0 0 0 0 1 1 1", api.ErrForm},
		{"aag 0 0 0 0 0 0 0 1000000000", api.ErrForm},
		{"aag 0 0 0 0 0 0 0 1 1000000000", api.ErrForm},
		{"aig 1001 0 0 0 0 0 0 1 1", api.ErrForm},
		{"aag 1001 0 0 0 0 0 0 1", api.ErrRange},
		{"aag 0 0 0 0 0 0 1001 1 1", api.ErrRange},
		{"aag 0 0 0 1001 0 0 0 0 1", api.ErrRange},
		{"aag 999999999 999999999 999999999 999999999 999999999 999999999 999999999 999999999 999999999", api.ErrRange},
		{"aag 1000 1000 1000 1000 1000 1000 1000 1000 0", api.ErrKind},
		{"aag 1000 1000 1000 1000 1000 1000 1000 0 1001", api.ErrKind},
		{"aag 0 0 0 0 0 0 0 999999999 999999999", api.ErrKind},
	} {
		for _, behind := range []string{"", "\n", "\n\n", "\n2\n2\n", "\nz\n"} {
			fails(t, "a first line", x.line+behind, 1, x.want)
		}
	}
	// What no sum allows is told by the lines that are not there.
	fails(t, "too many inputs and latches", "aag 1000 1000 1000 0 0\n", 2, api.ErrForm)
	fails(t, "too many bad literals", "aag 0 0 0 0 0 101\n", 2, api.ErrForm)
}

// lotsOf returns a text with so many inputs, latches, outputs, gates, bad literals and constraints, all of them of constants.
func lotsOf(most, inputs, latches, outputs, ands, bads, constraints int) string {
	lines := []string{"aag " + row(most, inputs, latches, outputs, ands, bads, constraints)}
	v := 0
	own := func() int { v++; return 2 * v }
	for range inputs {
		lines = append(lines, row(own()))
	}
	for range latches {
		lines = append(lines, row(own(), 0))
	}
	lines = append(lines, slices.Repeat([]string{"1"}, outputs)...)
	lines = append(lines, slices.Repeat([]string{"0"}, bads)...)
	lines = append(lines, slices.Repeat([]string{"1"}, constraints)...)
	for range ands {
		lines = append(lines, row(own(), 1, 1))
	}
	return joined(lines...)
}

// All errors that order.Check may have of what is read, each with the number 0.
func TestRawCircuitsThatAreNotValid(t *testing.T) {
	for _, x := range []struct {
		name string
		text string
		want api.Errno
	}{
		{"1,001 inputs and latches", lotsOf(1000, 1, 1000, 0, 0, 0, 0), api.ErrMany},
		{"1,001 inputs and gates", lotsOf(1000, 1000, 0, 0, 1, 0, 0), api.ErrMany},
		{"1,001 latches and gates", lotsOf(1000, 0, 500, 0, 501, 0, 0), api.ErrMany},
		{"1,001 of all", lotsOf(1000, 300, 300, 0, 401, 0, 0), api.ErrMany},
		{"101 bad literals", lotsOf(0, 0, 0, 0, 0, 101, 0), api.ErrMany},
		{"1,000 bad literals", lotsOf(0, 0, 0, 0, 0, 1000, 0), api.ErrMany},
		{"101 constraints", lotsOf(0, 0, 0, 0, 0, 0, 101), api.ErrMany},
		{"1,000 constraints", lotsOf(0, 0, 0, 0, 0, 0, 1000), api.ErrMany},
		{"101 outputs", lotsOf(0, 0, 0, 101, 0, 0, 0), api.ErrMany},
		{"1,000 outputs", lotsOf(0, 0, 0, 1000, 0, 0, 100), api.ErrMany},
		{"101 bad literals and an odd input", "aag 1 1 0 101 0\n3\n" + strings.Repeat("0\n", 101), api.ErrMany},
		{"an input 0", "aag 1 1 0 0 0\n0\n", api.ErrBad},
		{"an input 1", "aag 1 1 0 0 0\n1\n", api.ErrBad},
		{"an input 3", "aag 1 1 0 0 0\n3\n", api.ErrBad},
		{"an input above Most", "aag 1 1 0 0 0\n4\n", api.ErrBad},
		{"an input far above Most", "aag 1000 1 0 0 0\n999999998\n", api.ErrBad},
		{"a latch above Most", "aag 1 0 1 0 0\n4 0\n", api.ErrBad},
		{"a gate above Most", "aag 1 0 0 0 1\n4 0 0\n", api.ErrBad},
		{"an odd gate", "aag 1 0 0 0 1\n3 0 0\n", api.ErrBad},
		{"a bad literal above Most", "aag 1 1 0 0 0 1\n2\n4\n", api.ErrBad},
		{"an output above Most", "aag 1 1 0 1 0\n2\n4\n", api.ErrBad},
		{"a constraint above Most", "aag 1 1 0 0 0 0 1\n2\n4\n", api.ErrBad},
		{"an input twice", "aag 1 2 0 0 0\n2\n2\n", api.ErrTwice},
		{"an input that is a latch", "aag 1 1 1 0 0\n2\n2 2\n", api.ErrTwice},
		{"an input that is a gate", "aag 1 1 0 0 1\n2\n2 0 0\n", api.ErrTwice},
		{"1,000 inputs of one variable", "aag 1 1000 0 0 0\n" + strings.Repeat("2\n", 1000), api.ErrTwice},
		{"an open bad literal", "aag 1 0 0 0 0 1\n2\n", api.ErrOpen},
		{"an open output", "aag 1 0 0 1 0\n3\n", api.ErrOpen},
		{"an open constraint", "aag 1 0 0 0 0 0 1\n3\n", api.ErrOpen},
		{"an open next literal", "aag 2 0 1 0 0\n2 4\n", api.ErrOpen},
		{"an open part", "aag 2 0 0 0 1\n2 1 5\n", api.ErrOpen},
		{"a gate of itself", "aag 1 0 0 0 1\n2 1 3\n", api.ErrCycle},
		{"a circle of two gates", "aag 3 1 0 0 2\n2\n4 2 6\n6 5 3\n", api.ErrCycle},
		{"of layer 3's section Examples", "aag 4 1 0 0 2\n2\n6 8 2\n8 6 2\n", api.ErrCycle},
	} {
		fails(t, x.name, x.text, 0, x.want)
		fails(t, x.name+", with symbols", x.text+"i0 x\nc\nz\n", 0, x.want)
		fails(t, x.name+", without a line feed", strings.TrimSuffix(x.text, "\n"), 0, x.want)
		fails(t, x.name+", with another line behind it", x.text+"z\n", 1+strings.Count(x.text, "\n"), api.ErrMore)
	}
}

// One of all of what has no room any more.
func TestRawCircuitsThatAreJustSmallEnough(t *testing.T) {
	for _, x := range [][7]int{{1000, 1000}, {1000, 0, 1000}, {1000, 0, 0, 0, 1000}, {1000, 300, 300, 100, 400, 0, 100}, {1000, 1, 1, 1000, 1, 100, 100}} {
		s := lotsOf(x[0], x[1], x[2], x[3], x[4], x[5], x[6])
		want, line, e := wanted(s)
		if line != 0 || e != api.OK {
			t.Fatalf("%v is not read: %d, %d", x, line, e)
		}
		reads(t, fmt.Sprint(x), s, want)
	}
}
