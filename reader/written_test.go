package reader_test

import (
	"math/rand"
	"slices"
	"strings"
	"testing"

	"spiritlevel/api"
	"spiritlevel/ascii"
	"spiritlevel/order"
	"spiritlevel/reader"
)

// P8.3

func textOf(t *testing.T, r api.Raw) string {
	t.Helper()
	s, e := ascii.Raw(r)
	if e != api.OK {
		t.Fatalf("ascii.Raw(%+v): error %d", r, e)
	}
	return s
}

func TestTheTextOfARawCircuitIsReadAsIt(t *testing.T) {
	for r := range raws() {
		s := textOf(t, r)
		reads(t, "a text", s, r)
		reads(t, "a text without its last line feed", strings.TrimSuffix(s, "\n"), r)
		if t.Failed() {
			return
		}
	}
}

func TestTheTextOfACircuitIsReadAsIt(t *testing.T) {
	for r := range raws() {
		c, _, _ := order.Circuit(r)
		s, e := ascii.Text(c)
		if e != api.OK {
			t.Fatalf("ascii.Text(%+v): error %d", c, e)
		}
		if got, line, e := reader.Circuit(s); !sameCircuit(got, c) || line != 0 || e != api.OK {
			t.Fatalf("Circuit of %s = %+v, %d, %d; want %+v", short(s), got, line, e, c)
		}
		raw, _ := order.Raw(c)
		if got, line, e := reader.Raw(s); !same(got, raw) || line != 0 || e != api.OK {
			t.Fatalf("Raw of %s = %+v, %d, %d; want %+v", short(s), got, line, e, raw)
		}
	}
}

// rereads tests that what is read from a text, if it is, has a text, which is read as it; it tells whether it is.
func rereads(t *testing.T, s string) bool {
	t.Helper()
	r, _, e := reader.Raw(s)
	if e != api.OK {
		return false
	}
	c, _, d := reader.Circuit(s)
	again := textOf(t, r)
	if back, line, e := reader.Raw(again); !same(back, r) || line != 0 || e != api.OK {
		t.Fatalf("Raw of %s is %+v; of its text it is %+v, %d, %d", short(s), r, back, line, e)
	}
	text, e := ascii.Text(c)
	if back, line, f := reader.Circuit(text); !sameCircuit(back, c) || line != 0 || d != api.OK || e != api.OK || f != api.OK {
		t.Fatalf("Circuit of %s is %+v, %d; of its text %s, %d, it is %+v, %d, %d", short(s), c, d, short(text), e, back, line, f)
	}
	if back, line, e := reader.Circuit(again); !sameCircuit(back, c) || line != 0 || e != api.OK {
		t.Fatalf("Circuit of %s is %+v; of the text of the raw one it is %+v, %d, %d", short(s), c, back, line, e)
	}
	return true
}

func TestWhatIsReadHasAText(t *testing.T) {
	rnd := rand.New(rand.NewSource(84))
	for r := range raws() {
		for range 3 {
			if s := textIn(r, drawnStyle(rnd)); !rereads(t, s) {
				t.Fatalf("%s is not read", short(s))
			}
		}
	}
	n := 0
	for range 30000 {
		if rereads(t, changed(rnd, textIn(drawnRaw(rnd, rnd.Intn(5)), drawnStyle(rnd)))) {
			n++
		}
	}
	if n < 5000 {
		t.Errorf("only %d changed texts are read", n)
	}
	// A text as long as a text may be, which leaves out what is written.
	for _, r := range []api.Raw{longest(), full(), {Most: 1000, Bads: slices.Repeat([]int{1}, 100)}} {
		s := textIn(r, style{asBad: true, open: true, behind: []string{"c"}})
		if long := s + strings.Repeat("c", 40000-len(s)); !rereads(t, long) {
			t.Errorf("%s is not read", short(long))
		}
	}
}

// longNames are lines behind the gates of all letters, without and with an end.
func longNames() [][]string {
	return [][]string{
		nil, {"c"}, {"i0 x"}, {"i0 x", "i0 x"}, {"o0 x", "i0 x", "l0 x"}, {"b77 a longer name", "c"}, {"c", "i0 x"}, {"c", ""}, {"c", "", "", "x", ""}, {"c", "j0", "aag 1 0 1"},
		{"comment", "c", "2"}, {"i" + strings.Repeat("x", 2000)}, {"c", strings.Repeat("y", 2000)}, {"l\x00\xff"}, {"c", "\x00\xff"}, {"o\r", "c\r", "c", "\r"}, slices.Repeat([]string{"b"}, 500), append([]string{"c"}, slices.Repeat([]string{"z"}, 500)...),
	}
}

func TestSymbolsAndCommentsDoNotMatter(t *testing.T) {
	for r := range raws() {
		s := textOf(t, r)
		for _, lines := range longNames() {
			for _, text := range []string{s + joined(lines...), s + strings.Join(lines, "\n")} {
				if got, line, e := reader.Raw(text); !same(got, r) || line != 0 || e != api.OK {
					t.Fatalf("with the lines %q Raw of %s = %+v, %d, %d; want %+v", lines, short(s), got, line, e, r)
				}
			}
		}
	}
	// Nor do they for an error of order.Check.
	for _, lines := range longNames() {
		fails(t, "an open literal", "aag 1 0 0 1 0\n2\n"+joined(lines...), 0, api.ErrOpen)
		fails(t, "a line less", "aag 1 0 0 1 1\n1\n"+joined(lines...), 3, api.ErrForm)
	}
}

// Each text with its last lines left out is not as told in the line that is not there.
func TestFewerLines(t *testing.T) {
	rnd := rand.New(rand.NewSource(85))
	for r := range raws() {
		if len(r.Inputs)+len(r.Latches)+len(r.Ands) > 300 {
			r = drawnRaw(rnd, 40)
		}
		for _, how := range []style{{}, {counts: 9, zeros: true}, {asBad: true}, {outputs: []int{1, 22, 333333333}, counts: 7}} {
			lines := linesIn(r, how)
			for n := range lines {
				fails(t, "fewer lines", joined(lines[:n]...), 1+n, api.ErrForm)
				fails(t, "fewer lines, without a line feed", strings.Join(lines[:n], "\n"), 1+n, api.ErrForm)
				fails(t, "an empty line in place of them", joined(lines[:n]...)+"\n", 1+n, api.ErrForm)
				fails(t, "a comment in place of them", joined(lines[:n]...)+"c\n"+joined(lines[n:]...), 1+n, api.ErrForm)
			}
			reads(t, "all lines", joined(lines...), r)
			if t.Failed() {
				return
			}
		}
	}
}

// A line in the middle that is left out moves up the others: the text has a line less than it tells.
func TestALineLeftOut(t *testing.T) {
	lines := linesIn(full(), style{})
	for i := 0; i < len(lines); i += 5 {
		s := joined(slices.Delete(slices.Clone(lines), i, i+1)...)
		if _, _, e := reader.Raw(s); e != api.ErrForm {
			t.Fatalf("without the line %d the error is %d", 1+i, e)
		}
		readsAsWanted(t, "a line left out", s)
		readsAsWanted(t, "a line twice", joined(slices.Insert(slices.Clone(lines), i, lines[i])...))
	}
}

// changed returns a text with up to three changes: in a byte, a word, or a line.
func changed(rnd *rand.Rand, s string) string {
	for range rnd.Intn(4) {
		switch rnd.Intn(4) {
		case 0:
			const bytes = "0123456789 \n\n -+cilobjf\r\tag"
			at, i := rnd.Intn(len(s)+1), rnd.Intn(len(bytes))
			s = s[:at] + bytes[i:i+1] + s[at:]
		case 1:
			if len(s) > 0 {
				at := rnd.Intn(len(s))
				s = s[:at] + s[at+1:]
			}
		case 2:
			s = changedWord(rnd, s)
		case 3:
			s = changedLine(rnd, s)
		}
	}
	return s
}

func changedWord(rnd *rand.Rand, s string) string {
	lines := strings.Split(s, "\n")
	at := rnd.Intn(len(lines))
	words := strings.Split(lines[at], " ")
	all := append(wrongWords()[:30], "0", "0", "1", "1", "2", "2", "3", "4", "5", "6", "7", "8", "1000", "1001", "999999999")
	words[rnd.Intn(len(words))] = all[rnd.Intn(len(all))]
	lines[at] = strings.Join(words, " ")
	return strings.Join(lines, "\n")
}

func changedLine(rnd *rand.Rand, s string) string {
	lines := strings.Split(s, "\n")
	at, other := rnd.Intn(len(lines)), rnd.Intn(len(lines))
	switch rnd.Intn(4) {
	case 0:
		lines = slices.Delete(lines, at, at+1)
	case 1:
		lines = slices.Insert(lines, at, lines[other])
	case 2:
		lines[at], lines[other] = lines[other], lines[at]
	case 3:
		lines = lines[:at]
	}
	return strings.Join(lines, "\n")
}
