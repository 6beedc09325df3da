package witness_test

import (
	"fmt"
	"math/rand"
	"regexp"
	"slices"
	"strings"
	"testing"

	"spiritlevel/api"
	"spiritlevel/witness"
)

// P11.2: what is no text.

// exampleLines are the lines of the text of the tests' example.
func exampleLines() []string { return strings.Split(strings.TrimSuffix(exampleText, "\n"), "\n") }

func joined(lines []string) string { return strings.Join(lines, "\n") + "\n" }

// with returns the text of the tests' example with another line.
func with(i int, line string) string {
	lines := exampleLines()
	lines[i] = line
	return joined(lines)
}

// isNoText tests that a text is none, for the tests' example.
func isNoText(t *testing.T, name, s string) {
	t.Helper()
	readFails(t, name, example().c, s, api.ErrForm)
	if _, e := wantedRead(example().c, s); e != api.ErrForm {
		t.Errorf("%s: the reader of the tests has the error %d for %s", name, e, short(s))
	}
}

func TestTheTestsExample(t *testing.T) {
	writes(t, "the tests' example", example(), exampleText)
	for i, line := range exampleLines() {
		readsAsWanted(t, "the same line", example().c, with(i, line))
	}
}

func TestTheFirstLine(t *testing.T) {
	for _, line := range []string{"", "0", "2", "11", "01", "10", "+1", "-1", "1 ", " 1", "1\r", "1\t", "1\x00", "\x001", "l", "I", "b", "x", "sat", "1.", "1b", "1 b2", "c", "u", "\ufeff1", "１", "١", "1\n", "\n1", "1\n1", "1\nb2"} {
		isNoText(t, "the first line", with(0, line))
	}
}

// wrongIndices are lines that tell no index.
func wrongIndices() []string {
	list := []string{"", "b", "2", "c2", "B2", "j2", "f2", "bb2", "b b2", " b2", "b2 ", "b 2", "b2\r", "b2\t", "b\t2", "2b", "b2b", "b2 b3", "b2,3", "b2\nb2", "\nb2", "b2\n", "b\n2", "b2\x00", "b\x002", "\x00b2"}
	for _, word := range []string{
		"-", "+", "-2", "+2", "-0", "+0", "00", "02", "002", "000000002", "0000000002", "2.", "2.0", ".2", "2e0", "1e3", "0x2", "0b10", "0o2", "2_", "1_0", "_2", "a", "x", "two", "２", "٢", "²", "\xff", "2\xff",
		"1000000000", "1000000002", "4294967298", "9999999999", "2147483648", "18446744073709551616", "18446744073709551618", "9223372036854775807", "9223372036854775808", "99999999999999999999999999999999",
		strings.Repeat("2", 50000), strings.Repeat("0", 50000), strings.Repeat("0", 50000) + "2", "NaN", "true", "0 2", "2 0",
	} {
		list = append(list, "b"+word)
	}
	return list
}

func TestTheIndex(t *testing.T) {
	for _, line := range wrongIndices() {
		isNoText(t, "the index", with(1, line))
		// Also where neither the run nor the bad literal would be right.
		readFails(t, "the index of no bad literal", api.Circuit{Latches: make([]api.Latch, 1)}, joined([]string{"1", line, "1", "", "."}), api.ErrForm)
	}
}

// An index that is a number of at most nine digits is read, whether there is such a bad literal or not.
func TestDigitsOfTheIndex(t *testing.T) {
	c := example().c
	for n := 1; n < 25; n++ {
		for _, word := range []string{strings.Repeat("9", n), "1" + strings.Repeat("0", n-1), strings.Repeat("4", n)} {
			want := api.ErrArg
			switch {
			case n > 9:
				want = api.ErrForm
			case word == "1":
				// This bad literal is false at the end.
				want = api.ErrWitness
			}
			readFails(t, "an index", c, with(1, "b"+word), want)
		}
	}
	for i, want := range []api.Errno{api.OK, api.ErrWitness, api.OK, api.ErrWitness, api.ErrArg} {
		if e := readsAsWanted(t, "an index", c, with(1, fmt.Sprint("b", i))); e != want {
			t.Errorf("the index %d has the error %d; want %d", i, e, want)
		}
	}
}

// All words of up to four bytes of some.
func TestShortIndices(t *testing.T) {
	asTold := regexp.MustCompile(`\A(0|[1-9][0-9]*)\z`)
	c := api.Circuit{Bads: slices.Repeat([]int{1}, 10)}
	words := []string{""}
	for at := 0; at < len(words); at++ {
		word := words[at]
		s := joined([]string{"1", "b" + word, "", "", "."})
		e := readsAsWanted(t, "an index", c, s)
		if (e == api.ErrForm) == asTold.MatchString(word) || (e == api.OK) != (len(word) == 1 && asTold.MatchString(word)) {
			t.Errorf("the index %q has the error %d", word, e)
		}
		if len(word) < 4 {
			for _, more := range []string{"0", "1", "9", "-", "+", " ", "_", "x", "e", "."} {
				words = append(words, word+more)
			}
		}
	}
}

// The first state, and the inputs of each frame, have other bytes, or other lengths.
func TestRowsOfValues(t *testing.T) {
	for i := 2; i < 6; i++ {
		right := exampleLines()[i]
		for _, line := range []string{"", "0", "1", right + "0", right + "1", "0" + right, right[1:], right[:len(right)-1], right + " ", " " + right, right + "\r", right + right, strings.Repeat("0", 1000), strings.Repeat("1", 100000), "-", ".", "b012", "x", right + "\x00"} {
			if len(line) == len(right) {
				t.Fatalf("%q is as long as %q", line, right)
			}
			isNoText(t, "a row", with(i, line))
		}
		for at := range right {
			for b := range 256 {
				line := []byte(right)
				line[at] = byte(b)
				e := readsAsWanted(t, "a byte of a row", example().c, with(i, string(line)))
				if (e == api.ErrForm) != (b != '0' && b != '1') {
					t.Errorf("the byte %d in the row %d has the error %d", b, i, e)
				}
			}
		}
		for _, line := range []string{"2", "٠", "０", "O", "o", "l", "x", "X", "-", "?", "é"} {
			isNoText(t, "another digit", with(i, strings.Repeat(line, len(right))))
			isNoText(t, "another digit at the end", with(i, right[1:]+line))
			isNoText(t, "another digit at the beginning", with(i, line+right[1:]))
		}
	}
}

// What is missing in one row is not taken from another one.
func TestRowsAreNotPutTogether(t *testing.T) {
	for _, lines := range [][]string{
		{"1", "b2", "01010", "10", "01", "."},
		{"1", "b2", "01", "010", "10", "01", "."},
		{"1", "b2", "010", "1010", "01", "."},
		{"1", "b2", "010", "1", "0", "10", "01", "."},
		{"1", "b2", "010", "101", "0", "01", "."},
		{"1", "b2", "010", "", "1010", "01", "."},
		{"1", "b2", "010", "10", "10", "01."},
		{"1", "b2", "010", "10", "10", "0", "1."},
		{"1", "b2", "010 10", "10", "01", "."},
		{"1", "b2010", "10", "10", "01", "."},
		{"1b2", "010", "10", "10", "01", "."},
	} {
		isNoText(t, "rows", joined(lines))
	}
}

// Each line is left out, or stands there twice, or is empty, and two of them are exchanged.
func TestLinesThatAreNotInTheirPlaces(t *testing.T) {
	lines := exampleLines()
	for i, line := range lines {
		less := joined(slices.Delete(slices.Clone(lines), i, i+1))
		twice := joined(slices.Insert(slices.Clone(lines), i, line))
		if i < 3 || i > 5 {
			isNoText(t, "a line less", less)
			isNoText(t, "a line twice", twice)
		} else {
			// Inputs less, or more, are another run.
			readsAsWanted(t, "a frame less", example().c, less)
			readsAsWanted(t, "a frame twice", example().c, twice)
		}
		isNoText(t, "an empty line", with(i, ""))
		isNoText(t, "an empty line more", joined(slices.Insert(slices.Clone(lines), i, "")))
		isNoText(t, "a comment", joined(slices.Insert(slices.Clone(lines), i, "c")))
		for j := range i {
			other := slices.Clone(lines)
			other[i], other[j] = other[j], other[i]
			if i < 3 || j < 3 || i > 5 {
				isNoText(t, "two lines", joined(other))
			} else {
				readsAsWanted(t, "two frames", example().c, joined(other))
			}
		}
	}
}

func TestTheLastLine(t *testing.T) {
	for _, line := range []string{"", "..", ". ", " .", ".\r", ".\x00", ",", "c", "0", "01", ".\n", "\n.", ".\n.", "．", "b2", "1"} {
		isNoText(t, "the last line", with(6, line))
	}
	body := strings.TrimSuffix(exampleText, ".\n")
	for _, end := range []string{"", ".", "\n", "\n.\n", ".\n\n", ".\n.", ".\n.\n", ".\n ", ".\n\x00", ".\nc", ".\nc\n", ".\n# a comment\n", ".\r\n", ". \n", " .\n", "..\n", ".\n\n\n", ".\n1\nb2\n010\n10\n10\n01\n.\n"} {
		isNoText(t, "the end", body+end)
	}
	isNoText(t, "two texts", exampleText+exampleText)
	isNoText(t, "a text behind a line", "\n"+exampleText)
	isNoText(t, "a text behind a blank", " "+exampleText)
	isNoText(t, "a text behind a mark", "\ufeff"+exampleText)
}

// Where there are neither latches nor inputs, lines are told from each other only by their number.
func TestEmptyLines(t *testing.T) {
	c := api.Circuit{Bads: []int{1}}
	for n := range 300 {
		s := "1\nb0\n" + strings.Repeat("\n", n) + ".\n"
		if e := readsAsWanted(t, "empty lines", c, s); (e == api.OK) != (n >= 2 && n <= 101) || e != api.OK && e != api.ErrForm {
			t.Errorf("%d empty lines have the error %d", n, e)
		}
		for _, end := range []string{".", "", "\n", "..\n", ".\n\n", ".\n.\n"} {
			readFails(t, "another end", c, strings.TrimSuffix(s, ".\n")+end, api.ErrForm)
		}
	}
	for _, s := range []string{"1\nb0.\n", "1\nb0\n.\n", "1\nb0\n\n.\n", "1\nb.\n", "1\nb\n.\n", "1\nb\n\n\n.\n", "1\n\n\n\n.\n", "1\n.\n", "b0\n\n\n.\n", ".\n", "\n.\n", "1\nb", "1\nb0", "1\nb\n", "1\n", "1"} {
		readFails(t, "too few lines", c, s, api.ErrForm)
	}
}

// From 1 to 100 lists of inputs are a text; one more is none, and not ErrMany, which only runs have.
func TestNumbersOfLists(t *testing.T) {
	for n := range 300 {
		for _, y := range []shown{{c: blink(), t: blinks(n)}, {c: api.Circuit{Inputs: 3, Bads: []int{1}}, t: api.Trace{Inputs: slices.Repeat([][]bool{{x, o, x}}, n)}}} {
			e := readsAsWanted(t, "lists", y.c, y.text())
			if (e == api.ErrForm) != (n < 1 || n > 100) || e == api.ErrMany {
				t.Errorf("%d lists of inputs have the error %d", n, e)
			}
		}
	}
	for _, n := range []int{1000, 65535, 65536, 1 << 20} {
		readFails(t, "very many empty lists", blink(), "1\nb0\n0\n"+strings.Repeat("\n", n)+".\n", api.ErrForm)
		readFails(t, "very many lists", api.Circuit{Inputs: 1, Bads: []int{1}}, "1\nb0\n\n"+strings.Repeat("1\n", n)+".\n", api.ErrForm)
	}
}

func TestNoTextAtAll(t *testing.T) {
	for _, c := range []api.Circuit{{}, {Bads: []int{1}}, blink(), example().c, full().c} {
		for _, s := range []string{"", "\n", "\n\n", "\n\n\n\n\n", ".", ".\n", "1", "1\n", "1\nb0", "1\nb0\n", " ", "\x00", "\xff", "0\n", "2\n", "UNSAFE", "aag 1 0 1 0 0 1\n2 3\n2\n"} {
			readFails(t, "no text", c, s, api.ErrForm)
		}
	}
}

// The beginnings and the ends of a text are none, nor is it in two parts.
func TestPartsOfTexts(t *testing.T) {
	for _, y := range []shown{{c: blink(), t: blinks(2)}, example(), wide(0, 0, 3), wide(2, 3, 100), wide(1000, 0, 2)} {
		s := y.text()
		for i := range len(s) {
			readFails(t, "a beginning", y.c, s[:i], api.ErrForm)
			if i > 0 {
				readFails(t, "an end", y.c, s[i:], api.ErrForm)
				readsAsWanted(t, "without a byte", y.c, s[:i-1]+s[i:])
			}
			for _, more := range []string{"0", "1", "\n", "\r", ".", "b", " ", "\x00", "\n\n"} {
				readsAsWanted(t, "with a byte more", y.c, s[:i]+more+s[i:])
			}
			if t.Failed() {
				return
			}
		}
	}
}

// Carriage returns, other ends of lines, and other letters are none.
func TestOtherWaysToWrite(t *testing.T) {
	for _, y := range edges() {
		s := y.text()
		for _, other := range []string{strings.ReplaceAll(s, "\n", "\r\n"), strings.ReplaceAll(s, "\n", "\r"), strings.ReplaceAll(s, "\n", " "), strings.ReplaceAll(s, "\n", "\n\n"), strings.ReplaceAll(s, "b", "B"), strings.ReplaceAll(s, "b", "j"), strings.TrimSuffix(s, "\n"), strings.TrimSpace(s), strings.ReplaceAll(s, "\n", "\u2028"), strings.ReplaceAll(s, "\n", "\x85"), strings.ReplaceAll(s, "\n", "\\n")} {
			readFails(t, "another way", y.c, other, api.ErrForm)
		}
	}
}

// A text of one circuit is none of another one with more or fewer inputs or latches.
func TestTextsOfOtherCircuits(t *testing.T) {
	var list []shown
	for inputs := range 4 {
		for latches := range 4 {
			for frames := 1; frames < 4; frames++ {
				list = append(list, wide(inputs, latches, frames))
			}
		}
	}
	for _, y := range list {
		for _, z := range list {
			if y.c.Inputs == z.c.Inputs && len(y.c.Latches) == len(z.c.Latches) {
				writes(t, "the same shape", shown{z.c, y.t, 0}, y.text())
			} else {
				readFails(t, "another shape", z.c, y.text(), api.ErrForm)
			}
		}
	}
}

// All strings of up to seven bytes of those that texts have, behind their beginning, and without it.
func TestAllShortTexts(t *testing.T) {
	const letters = "01b.\n"
	circuits := []api.Circuit{{Bads: []int{1}}, {Inputs: 1, Bads: []int{3, 2}}, {Latches: []api.Latch{{Next: 3}}, Bads: []int{3, 2}}, {Inputs: 1, Latches: []api.Latch{{Next: 2, Reset: api.ReOne}}, Bads: []int{4, 2}}}
	found := 0
	for _, begin := range []string{"", "1", "1\n", "1\nb", "1\nb0", "1\nb1\n0"} {
		for size, count := 0, 1; size <= 7; size, count = size+1, count*len(letters) {
			b := []byte(begin + strings.Repeat(" ", size))
			for code := range count {
				for i := range size {
					b[len(begin)+i] = letters[code%len(letters)]
					code /= len(letters)
				}
				s := string(b)
				isText := textForm.MatchString(s)
				for _, c := range circuits {
					if isText {
						if readsAsWanted(t, "a short text", c, s) == api.OK {
							found++
						}
					} else if run, bad, e := witness.Read(c, s); e != api.ErrForm || bad != 0 || !equalTraces(run, api.Trace{}) {
						t.Errorf("Read(%s, %s) = %s, %d, %d", short(c), short(s), short(run), bad, e)
					}
				}
			}
		}
	}
	if found < 15 {
		t.Errorf("only %d texts are read", found)
	}
}

// changed changes a text in some places.
func changed(rnd *rand.Rand, s string) string {
	b := []byte(s)
	for range 1 + rnd.Intn(3) {
		at := rnd.Intn(len(b) + 1)
		if rnd.Intn(2) == 0 {
			at = min(at, rnd.Intn(8))
		}
		letter := "00001111\n\nb.2 9-\r"[rnd.Intn(17)]
		switch kind := rnd.Intn(6); {
		case kind == 0:
			b = slices.Insert(b, at, letter)
		case at == len(b):
		case kind == 1:
			b = slices.Delete(b, at, at+1)
		case kind == 2:
			b[at] = letter
		case b[at] == '0' || b[at] == '1':
			b[at] ^= 1
		}
		if len(b) == 0 {
			return ""
		}
	}
	return string(b)
}

// Texts that are changed in some places are read as by the reader of the tests, or fail as there.
func TestChangedTexts(t *testing.T) {
	rnd := rand.New(rand.NewSource(118))
	seen := map[api.Errno]int{}
	for round := range 40000 {
		y := drawnShown(rnd, drawnCircuit(rnd, round%5), 1+rnd.Intn(4))
		seen[readsAsWanted(t, "a changed text", y.c, changed(rnd, y.text()))]++
		if t.Failed() {
			return
		}
	}
	for _, e := range []api.Errno{api.OK, api.ErrForm, api.ErrBad, api.ErrArg, api.ErrWitness} {
		if seen[e] < 100 {
			t.Errorf("the error %d came %d times", e, seen[e])
		}
	}
	if len(seen) != 5 {
		t.Errorf("the errors are %v", seen)
	}
}
