package binary_test

import (
	"bytes"
	"iter"
	"math/rand"
	"slices"
	"strings"
	"testing"

	"spiritlevel/api"
	"spiritlevel/ascii"
	"spiritlevel/binary"
	"spiritlevel/gates"
)

// P10.4

// bytesOf returns the bytes of a valid circuit.
func bytesOf(t *testing.T, c api.Circuit) []byte {
	t.Helper()
	b, e := binary.Write(c)
	if e != api.OK {
		t.Fatalf("Write(%+v): error %d", c, e)
	}
	return b
}

// smallOnes yields all valid circuits with up to two variables, and at most one bad literal and one constraint.
func smallOnes() iter.Seq[api.Circuit] {
	return func(yield func(api.Circuit) bool) {
		for vars := range 3 {
			for inputs := range vars + 1 {
				for latches := range vars - inputs + 1 {
					c := api.Circuit{Inputs: inputs, Latches: make([]api.Latch, latches), Ands: make([]api.And, vars-inputs-latches)}
					for more := true; more; more = nextCircuit(&c, vars) {
						if !yield(c) {
							return
						}
					}
				}
			}
		}
	}
}

// nextCircuit counts on, and tells whether there is a next one: no bad literal, and no constraint, come before the literal 0.
func nextCircuit(c *api.Circuit, vars int) bool {
	for _, list := range []*[]int{&c.Bads, &c.Constraints} {
		switch {
		case len(*list) == 0:
			*list = []int{0}
			return true
		case (*list)[0] < 2*vars+1:
			*list = []int{(*list)[0] + 1}
			return true
		}
		*list = nil
	}
	for i := range c.Latches {
		l := &c.Latches[i]
		l.Next++
		if l.Next > 2*vars+1 {
			l.Next = 0
			l.Reset++
		}
		if l.Reset <= api.ReAny {
			return true
		}
		*l = api.Latch{}
	}
	for i := range c.Ands {
		g := &c.Ands[i]
		g.B++
		if g.B > g.A {
			g.A, g.B = g.A+1, 0
		}
		if g.A < 2*(vars-len(c.Ands)+1+i) {
			return true
		}
		*g = api.And{}
	}
	return false
}

// writtenAndRead tests that the bytes and the text of a circuit are read as it, and that the bytes are not more than the text has.
func writtenAndRead(t *testing.T, c api.Circuit) {
	t.Helper()
	b := bytesOf(t, c)
	reads(t, "what is written", b, c)
	s, e := ascii.Text(c)
	if e != api.OK {
		t.Fatalf("ascii.Text(%+v): error %d", c, e)
	}
	if got, e := binary.Any([]byte(s)); !same(got, c) || e != api.OK {
		t.Fatalf("Any of the text %s = %+v, %d; want %+v", short([]byte(s)), got, e, c)
	}
	if len(b) > len(s) {
		t.Fatalf("%+v has %d bytes, and a text of %d", c, len(b), len(s))
	}
}

func TestBytesAndTextsOfACircuitAreReadAsIt(t *testing.T) {
	for c := range circuits() {
		writtenAndRead(t, c)
	}
}

// All small circuits are written and read; different ones have different bytes.
func TestAllSmallCircuits(t *testing.T) {
	n, seen := 0, map[string]bool{}
	for c := range smallOnes() {
		if e := gates.Check(c); e != api.OK {
			t.Fatalf("gates.Check(%+v) = %d", c, e)
		}
		writtenAndRead(t, c)
		n++
		seen[string(bytesOf(t, c))] = true
		if t.Failed() {
			return
		}
	}
	if n < 20000 || len(seen) != n {
		t.Errorf("%d circuits have %d different bytes", n, len(seen))
	}
}

// Without inputs and gates the bytes are fewer by what latches are told less; without all of these they are as many.
func TestHowManyBytes(t *testing.T) {
	for _, x := range []struct {
		c    api.Circuit
		less int
	}{
		{api.Circuit{}, 0},
		{api.Circuit{Bads: []int{1, 0}, Constraints: []int{0}}, 0},
		{api.Circuit{Inputs: 1}, 2},
		{api.Circuit{Latches: []api.Latch{{Next: 3}}}, 2},
		{api.Circuit{Latches: []api.Latch{{Next: 3, Reset: api.ReAny}}}, 2},
		{api.Circuit{Ands: []api.And{{A: 1, B: 0}}}, 4},
		{constant(1000, 0, 0), 4*2 + 45*3 + 450*4 + 501*5},
	} {
		s, _ := ascii.Text(x.c)
		if b := bytesOf(t, x.c); len(s)-len(b) != x.less {
			t.Errorf("%+v has %d bytes, and a text of %d", x.c, len(b), len(s))
		}
	}
}

// rereads tests that what is read from bytes, if it is, is valid and has bytes, which are read as it; it tells whether it is.
func rereads(t *testing.T, b []byte) bool {
	t.Helper()
	c, e := binary.Any(b)
	if e != api.OK {
		return false
	}
	if e := gates.Check(c); e != api.OK {
		t.Fatalf("Any of %s is %+v; gates.Check says %d", short(b), c, e)
	}
	again := bytesOf(t, c)
	if back, e := binary.Read(again); !same(back, c) || e != api.OK {
		t.Fatalf("Any of %s is %+v; of its bytes %s it is %+v, %d", short(b), c, short(again), back, e)
	}
	return true
}

func TestWhatIsReadHasBytes(t *testing.T) {
	rnd := rand.New(rand.NewSource(104))
	for c := range circuits() {
		for range 3 {
			if b := bytesIn(c, drawnStyle(rnd)); !rereads(t, b) {
				t.Fatalf("%s is not read", short(b))
			}
		}
	}
	n := 0
	for range 40000 {
		if rereads(t, changed(rnd, bytesIn(drawnCircuit(rnd, rnd.Intn(5)), drawnStyle(rnd)))) {
			n++
		}
	}
	if n < 5000 {
		t.Errorf("only %d changed bytes are read", n)
	}
	for _, s := range textsOf {
		rereads(t, []byte(s))
	}
	// Bytes as long as bytes may be, which leave out what is written.
	for _, c := range []api.Circuit{longest(), full(), {Inputs: 1000, Bads: slices.Repeat([]int{1}, 100)}} {
		b := bytesIn(c, style{asBad: true, open: true, behind: []string{"c"}})
		if b = append(b, strings.Repeat("c", 40000-len(b))...); !rereads(t, b) {
			t.Errorf("%s is not read", short(b))
		}
	}
}

// longNames are lines behind the gates of all letters, without and with an end.
func longNames() [][]string {
	return [][]string{
		nil, {"c"}, {"i0 x"}, {"i0 x", "i0 x"}, {"o0 x", "i0 x", "l0 x"}, {"b77 a longer name", "c"}, {"c", "i0 x"}, {"c", ""}, {"c", "", "", "x", ""}, {"c", "j0", "aig 1 0 1"},
		{"comment", "c", "2"}, {"i" + strings.Repeat("x", 2000)}, {"c", strings.Repeat("y", 2000)}, {"l\x00\xff"}, {"c", "\x00\xff"}, {"o\r", "c\r", "c", "\r"}, slices.Repeat([]string{"b"}, 500), append([]string{"c"}, slices.Repeat([]string{"z"}, 500)...),
	}
}

func TestSymbolsAndCommentsDoNotMatter(t *testing.T) {
	for c := range circuits() {
		b := bytesOf(t, c)
		for _, lines := range longNames() {
			for _, all := range [][]byte{append(bytes.Clone(b), joined(lines...)...), append(bytes.Clone(b), strings.Join(lines, "\n")...)} {
				reads(t, "with such lines", all, c)
			}
		}
		if t.Failed() {
			return
		}
	}
	// Nor do they for an error behind them, or in front of them.
	for _, lines := range longNames() {
		behind := joined(lines...)
		fails(t, "a literal too great", []byte("aig 0 0 0 1 0\n2\n"+behind), api.ErrBad)
		fails(t, "a gate of itself", []byte("aig 1 0 0 0 1\n\x00\x00"+behind), api.ErrBad)
		fails(t, "no number", []byte("aig 0 0 0 1 0\nx\n"+behind), api.ErrForm)
	}
}

// changed returns bytes with up to three changes: in a byte, a word, or a line.
func changed(rnd *rand.Rand, b []byte) []byte {
	s := string(b)
	for range rnd.Intn(4) {
		switch rnd.Intn(5) {
		case 0:
			const bytes = "0123456789 \n\n -+cilobjf\r\taig\x00\x01\x02\x80\xff"
			at, i := rnd.Intn(len(s)+1), rnd.Intn(len(bytes))
			s = s[:at] + bytes[i:i+1] + s[at:]
		case 1:
			if len(s) > 0 {
				at := rnd.Intn(len(s))
				s = s[:at] + s[at+1:]
			}
		case 2:
			if len(s) > 0 {
				at := rnd.Intn(len(s))
				s = s[:at] + string([]byte{byte(rnd.Intn(256)) >> rnd.Intn(8)}) + s[at+1:]
			}
		case 3:
			s = changedWord(rnd, s)
		case 4:
			s = changedLine(rnd, s)
		}
	}
	return []byte(s)
}

func changedWord(rnd *rand.Rand, s string) string {
	lines := strings.Split(s, "\n")
	at := rnd.Intn(len(lines))
	words := strings.Split(lines[at], " ")
	all := append(wrongWords()[:30], "0", "0", "1", "1", "2", "2", "3", "4", "5", "6", "7", "8", "1000", "1001", "999999999")
	words[rnd.Intn(len(words))] = all[rnd.Intn(len(all))]
	lines[at] = strings.Join(words, " ")
	return strings.Join(lines, "\n")
}

func changedLine(rnd *rand.Rand, s string) string {
	lines := strings.Split(s, "\n")
	at, other := rnd.Intn(len(lines)), rnd.Intn(len(lines))
	switch rnd.Intn(4) {
	case 0:
		lines = slices.Delete(lines, at, at+1)
	case 1:
		lines = slices.Insert(lines, at, lines[other])
	case 2:
		lines[at], lines[other] = lines[other], lines[at]
	case 3:
		lines = lines[:at]
	}
	return strings.Join(lines, "\n")
}
