package explicit_test

import (
	"strings"
	"testing"

	"spiritlevel/api"
	"spiritlevel/ascii"
	"spiritlevel/binary"
	"spiritlevel/deltas"
	"spiritlevel/explicit"
	"spiritlevel/reader"
	"spiritlevel/traces"
	"spiritlevel/witness"
)

// N2: text, bytes, packed gates, witnesses and verdicts agree.

// written returns a circuit as it comes back from a text, from bytes, from either of them by binary.Any, and with gates that were packed.
func written(t *testing.T, c api.Circuit) map[string]api.Circuit {
	t.Helper()
	text, e1 := ascii.Text(c)
	b, e2 := binary.Write(c)
	if e1 != api.OK || e2 != api.OK {
		t.Fatalf("%s is not written: %d, %d", short(c), e1, e2)
	}
	all := map[string]api.Circuit{"packed gates": c}
	read := func(name string, back api.Circuit, e api.Errno) {
		if e != api.OK {
			t.Fatalf("%s of %s is not read: %d", name, short(c), e)
		}
		all[name] = back
	}
	back, line, e := reader.Circuit(text)
	read("the text", back, e)
	if line != 0 {
		t.Errorf("the text of %s has an error in the line %d", short(c), line)
	}
	back, e = binary.Read(b)
	read("the bytes", back, e)
	back, e = binary.Any(b)
	read("any bytes", back, e)
	back, e = binary.Any([]byte(text))
	read("any text", back, e)
	if len(c.Ands) > 0 {
		first := 1 + c.Inputs + len(c.Latches)
		packed, _ := deltas.Pack(first, c.Ands)
		back = c
		back.Ands, _, e = deltas.Unpack(first, len(c.Ands), packed)
		read("packed gates", back, e)
	}
	return all
}

func TestVerdictsOfWhatIsWrittenAndRead(t *testing.T) {
	for c := range circuits() {
		safe, run := verdictOf(t, c)
		for name, back := range written(t, c) {
			says(t, name, back, safe, run)
			states, frames, _ := explicit.Reached(c)
			reaches(t, name, back, states, frames)
		}
		if t.Failed() {
			return
		}
	}
}

// The least witness of a circuit has a text, which is read as it.
func TestLeastWitnessesAsTexts(t *testing.T) {
	for c := range circuits() {
		safe, run := verdictOf(t, c)
		if safe {
			continue
		}
		bad, e := traces.Witness(c, run)
		if e != api.OK {
			t.Fatalf("Witness(%s, %s): error %d", short(c), short(run), e)
		}
		s, e := witness.Write(c, run, bad)
		if e != api.OK || strings.Count(s, "\n") != len(run.Inputs)+4 {
			t.Fatalf("Write(%s, %s) = %q, %d", short(c), short(run), s, e)
		}
		if back, index, e := witness.Read(c, s); !equalTraces(back, run) || index != bad || e != api.OK {
			t.Fatalf("Read(%s, %q) = %s, %d, %d", short(c), s, short(back), index, e)
		}
	}
}

// Examples 5, 6, 8 and 9 of DOC.md.
func TestExamplesOfTheWhole(t *testing.T) {
	c, _, e := reader.Circuit("aag 1 0 1 0 0 1\n2 3\n2\n")
	if e != api.OK {
		t.Fatalf("the circuit is not read: %d", e)
	}
	safe, run := verdictOf(t, c)
	if s, e := witness.Write(c, run, 0); safe || s != "1\nb0\n0\n\n\n.\n" || e != api.OK {
		t.Errorf("Verdict = %t, and its text %q, %d", safe, s, e)
	}
	states, _ := traces.States(c, run)
	if !equalLists(states, [][]bool{{o}, {x}}) {
		t.Errorf("the states are %v", states)
	}
	c.Constraints = []int{3}
	says(t, "the latch is false", c, true, api.Trace{})
}
