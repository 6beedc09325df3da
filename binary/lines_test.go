package binary_test

import (
	"bytes"
	"fmt"
	"regexp"
	"slices"
	"strconv"
	"strings"
	"testing"

	"spiritlevel/api"
)

// P10.2: lines that are not as told, one in all bytes. Several faults, and those of gates and circuits, are in wrong_test.go.

// The first line's numbers are from 5 to 9.
func TestFirstLinesWithTooFewAndTooManyNumbers(t *testing.T) {
	for n := range 15 {
		line := "aig" + strings.Repeat(" 0", n) + "\n"
		for _, behind := range []string{"", "c\n", "i0"} {
			if n < 5 || n > 9 {
				fails(t, "so many numbers", []byte(line+behind), api.ErrForm)
			} else {
				reads(t, "so many numbers", []byte(line+behind), api.Circuit{})
			}
		}
	}
	fails(t, "many numbers", []byte("aig"+strings.Repeat(" 0", 19990)+"\n"), api.ErrForm)
}

func TestFirstLinesThatAreNotAsTold(t *testing.T) {
	for _, line := range []string{
		"", " ", "a", "ai", "aig", "aig ", "aig  ", "0", "0 0 0 0 0", "c", "i0",
		"aag 0 0 0 0 0", "AIG 0 0 0 0 0", "Aig 0 0 0 0 0", "ig 0 0 0 0 0", "aaig 0 0 0 0 0", "aigg 0 0 0 0 0", "aig0 0 0 0 0", "aig0 0 0 0 0 0",
		" aig 0 0 0 0 0", "aig  0 0 0 0 0", "aig 0  0 0 0 0", "aig 0 0 0 0  0", "aig 0 0 0 0 0 ", "aig 0 0 0 0 0  ", "aig 0 0 0 0 0\r", "aig 0 0 0 0 0\t", "aig 0 0 0 0 0\x00",
		"aig\t0 0 0 0 0", "aig 0\t0 0 0 0", "aig 0 0 0 0\t0", "\taig 0 0 0 0 0", "\ufeffaig 0 0 0 0 0", "aig\u00a00 0 0 0 0", "aig 0 0 0 0\u00a00", "aig 0,0,0,0,0", "aig aig 0 0 0 0 0", "aig 0 0 0 0 aig",
		"aig 0 0 0 0 x", "aig x 0 0 0 0", "aig 0 0 0 0 0 x", "aig 0 0 0 0 0 0 0 0 x", "aig 0 0 0 0 0 # none", "aig 0 0 0 0 0\v", "aig 0 0 0 0 0\f",
	} {
		fails(t, "a first line, without its line feed", []byte(line), api.ErrForm)
		fails(t, "a first line", []byte(line+"\n"), api.ErrForm)
		fails(t, "a first line behind which there is one", []byte(line+"\naig 0 0 0 0 0\n"), api.ErrForm)
	}
}

func TestNoBytesAtAll(t *testing.T) {
	fails(t, "nil", nil, api.ErrForm)
	for _, s := range []string{"", "\n", "\n\n", "\n\n\n", "\naig 0 0 0 0 0", "\naig 0 0 0 0 0\n", "\x00", "\xff"} {
		fails(t, "no first line", []byte(s), api.ErrForm)
	}
}

// A first line ends with a line feed, also if nothing else is asked for; without one it is not looked at.
func TestFirstLinesWithoutALineFeed(t *testing.T) {
	for _, line := range []string{"aig 0 0 0 0 0", "aig 0 0 0 0 0 0 0", "aig 0 0 0 0 0 0 0 0 0", "aig 1 1 0 0 0", "aig 1001 0 0 0 0", "aig 0 0 0 0 0 0 0 1", "aig 0 0 0 0 0 0 0 0 1", "aig 1 0 0 0 0", "aig 1 0 1 0 0", "aig 0 0 0 0 0 101"} {
		fails(t, "no line feed", []byte(line), api.ErrForm)
		fails(t, "a carriage return", []byte(line+"\r"), api.ErrForm)
		fails(t, "a carriage return and a line feed", []byte(line+"\r\n"), api.ErrForm)
	}
}

// wrongWords are no numbers.
func wrongWords() []string {
	return []string{
		"", "-", "+", "-1", "+1", "-0", "+0", "--1", "00", "01", "02", "010", "000000000", "000000001", "0000000000", "1000000000", "1234567890", "9999999999", "4294967296", "18446744073709551616",
		"99999999999999999999999999999999", "1.0", "1e3", "1_0", "0x1", "0b1", "0o7", "1,", ",1", "a", "c", "i0", "1a", "a1", "٣", "１", "²", "1\x00", "\x00", "\xff", "1\r", "\t1", "1\t", "\u00a01", "NaN", "true", strings.Repeat("1", 30000),
	}
}

// A word that is no number is none in any place of a line.
func TestWordsThatAreNoNumbers(t *testing.T) {
	lines := exampleParts().lines
	for i, line := range lines {
		for j, old := range strings.Split(line, " ") {
			for _, word := range wrongWords() {
				words := strings.Split(line, " ")
				words[j] = word
				p := exampleParts()
				p.lines[i] = strings.Join(words, " ")
				fails(t, fmt.Sprintf("the word %d of the line %d, which was %s,", 1+j, 1+i, old), p.bytes(), api.ErrForm)
			}
		}
		if t.Failed() {
			return
		}
	}
}

// All words of up to four bytes of some, as an output that does not count.
func TestShortWords(t *testing.T) {
	asTold := regexp.MustCompile(`\A(0|[1-9][0-9]*)\z`)
	words := []string{""}
	for at := 0; at < len(words); at++ {
		word := words[at]
		b := inBytes([]string{"aig 0 0 0 1 0 1", word, "1"})
		if asTold.MatchString(word) {
			reads(t, "a word", b, api.Circuit{Bads: []int{1}})
		} else if !strings.Contains(word, "\n") {
			fails(t, "a word", b, api.ErrForm)
		}
		if len(word) < 4 {
			for _, more := range []string{"0", "1", "9", "-", "+", " ", "_", "x", "e"} {
				words = append(words, word+more)
			}
		}
	}
}

// A number has at most nine digits, wherever it stands.
func TestDigitsOfNumbers(t *testing.T) {
	for n := 1; n < 25; n++ {
		for _, word := range []string{strings.Repeat("9", n), "1" + strings.Repeat("0", n-1)} {
			e := api.ErrForm
			if n <= 9 {
				e = api.OK
			}
			check := func(name string, lines ...string) {
				t.Helper()
				if e == api.OK {
					reads(t, name, inBytes(lines), api.Circuit{Bads: []int{1}})
				} else {
					fails(t, name, inBytes(lines), api.ErrForm)
				}
			}
			check("the only output", "aig 0 0 0 1 0 1", word, "1")
			check("the second output", "aig 0 0 0 2 0 1", "1", word, "1")
			if n <= 9 {
				value, _ := strconv.Atoi(word)
				e = api.ErrBad
				if value < 2 {
					e = api.OK
				}
			}
			if e != api.OK {
				fails(t, "a bad literal", inBytes([]string{"aig 0 0 0 0 0 1", word}), e)
				fails(t, "a constraint", inBytes([]string{"aig 0 0 0 0 0 0 1", word}), e)
			}
		}
	}
	for n := 5; n < 25; n++ {
		word := "1" + strings.Repeat("0", n-1)
		for place := range 9 {
			words := strings.Split("aig 0 0 0 0 0 0 0 0 0", " ")
			words[1+place] = word
			e := api.ErrForm
			if n <= 9 {
				e = api.ErrRange
				if place > 6 {
					e = api.ErrKind
				}
			}
			fails(t, "in the first line", []byte(strings.Join(words, " ")+"\n"), e)
		}
		e := api.ErrForm
		if n <= 9 {
			e = api.ErrBad
		}
		fails(t, "a next literal", inBytes([]string{"aig 1 0 1 0 0", word}), e)
		fails(t, "a next literal with a reset", inBytes([]string{"aig 1 0 1 0 0", word + " 0"}), e)
		fails(t, "a reset", inBytes([]string{"aig 1 0 1 0 0", "0 " + word}), api.ErrForm)
	}
}

// Each line but those behind the gates has just its numbers: with one more, or less, or a blank, it is not as told.
func TestLinesWithMoreOrLess(t *testing.T) {
	lines := exampleParts().lines
	for i, line := range lines {
		for name, other := range map[string]string{
			"empty": "", "a blank": " ", "a blank in front": " " + line, "a blank behind": line + " ", "two blanks in front": "  " + line, "a tab behind": line + "\t", "a carriage return behind": line + "\r", "a zero byte behind": line + "\x00",
			"a word behind": line + " x", "many numbers": line + strings.Repeat(" 0", 9), "three numbers": "0 0 0", "a comment": "c", "a symbol": "i0 x", "a comment behind": line + " c",
		} {
			p := exampleParts()
			p.lines[i] = other
			fails(t, fmt.Sprintf("the line %d, %s", 1+i, name), p.bytes(), api.ErrForm)
		}
		if blank := strings.Index(line, " "); blank >= 0 {
			p := exampleParts()
			p.lines[i] = line[:blank] + " " + line[blank:]
			fails(t, fmt.Sprintf("the line %d, two blanks", 1+i), p.bytes(), api.ErrForm)
			p.lines[i] = line[:blank] + "\t" + line[blank+1:]
			fails(t, fmt.Sprintf("the line %d, a tab", 1+i), p.bytes(), api.ErrForm)
		}
		if i > 2 {
			p := exampleParts()
			p.lines[i] = "1 1"
			fails(t, fmt.Sprintf("the line %d, two numbers", 1+i), p.bytes(), api.ErrForm)
		}
	}
}

// The second number of a latch is 0, 1 or the literal of its own variable.
func TestWrongResets(t *testing.T) {
	for _, inputs := range []int{0, 1, 2, 7} {
		for i := range 3 {
			own := 2 * (1 + inputs + i)
			for n := range 40 {
				lines := []string{"aig " + row(inputs+3, inputs, 3, 0, 0), "0", "0", "0"}
				lines[1+i] = row(1, n)
				want := constant(inputs, 3, 0)
				want.Latches = make([]api.Latch, 3)
				want.Latches[i].Next = 1
				switch n {
				case 0:
				case 1:
					want.Latches[i].Reset = api.ReOne
				case own:
					want.Latches[i].Reset = api.ReAny
				default:
					fails(t, "a wrong reset", inBytes(lines), api.ErrForm)
					continue
				}
				reads(t, "a reset", inBytes(lines), want)
			}
		}
	}
	fails(t, "the literal of the first latch", inBytes([]string{"aig 2 0 2 0 0", "0 2", "0 2"}), api.ErrForm)
	fails(t, "the literal of the next latch", inBytes([]string{"aig 2 0 2 0 0", "0 4", "0 4"}), api.ErrForm)
	fails(t, "the negation", inBytes([]string{"aig 1 0 1 0 0", "0 3"}), api.ErrForm)
	fails(t, "the next literal", inBytes([]string{"aig 2 0 2 0 0", "4 4", "0"}), api.ErrForm)
	fails(t, "the literal, as in a text", inBytes([]string{"aig 1 0 1 0 0", "2 3"}), api.ErrForm)
	fails(t, "the literal, as in a text, with a reset", inBytes([]string{"aig 1 0 1 0 0", "2 3 2"}), api.ErrForm)
	// A next literal that is not valid is not looked at before all is read.
	fails(t, "a next literal too great", inBytes([]string{"aig 1 0 1 0 0", "4 2"}), api.ErrBad)
	fails(t, "a next literal too great with another reset", inBytes([]string{"aig 1 0 1 0 0", "4 4"}), api.ErrForm)
}

// firstWith returns a first line of nine numbers, which are 0 but for one.
func firstWith(place, n int) string {
	counts := make([]int, 9)
	counts[place] = n
	return "aig " + row(counts...)
}

// MaxVars is the greatest number of the first line, in each place but the last two.
func TestRangeOfTheFirstLine(t *testing.T) {
	for place := range 7 {
		for _, n := range []int{1001, 1002, 2000, 9999, 10000, 123456789, 999999999} {
			line := firstWith(place, n)
			fails(t, "a number too great", []byte(line+"\n"), api.ErrRange)
			fails(t, "a number too great, and lines", inBytes([]string{line, strings.Repeat("0\n", 2000)}), api.ErrRange)
		}
	}
	// What is just not too great has another error, or none.
	for place, e := range []api.Errno{api.ErrBad, api.ErrBad, api.ErrBad, api.ErrForm, api.ErrBad, api.ErrForm, api.ErrForm} {
		fails(t, "the greatest number", []byte(firstWith(place, 1000)+"\n"), e)
		fails(t, "the greatest number but one", []byte(firstWith(place, 999)+"\n"), e)
	}
	fails(t, "the sum is too great", []byte("aig 1000 1000 1000 1000 1000 1000 1000 0 0\n"), api.ErrBad)
	fails(t, "one too many of all", []byte("aig 1001 1001 1001 1001 1001 1001 1001 0 0\n"), api.ErrRange)
	for n := 5; n < 10; n++ {
		for place := range min(n, 7) {
			words := strings.Split("aig"+strings.Repeat(" 0", n), " ")
			words[1+place] = "1001"
			fails(t, "fewer numbers", []byte(strings.Join(words, " ")+"\n"), api.ErrRange)
		}
	}
}

// Justices and fairness constraints are not read.
func TestKinds(t *testing.T) {
	for _, n := range []int{1, 2, 10, 999, 1000, 1001, 2000, 123456789, 999999999} {
		for _, behind := range []string{"\n", "\n1\n0\n0\n", "\nc\n"} {
			fails(t, "fairness", []byte(firstWith(8, n)+behind), api.ErrKind)
			fails(t, "justice", []byte(firstWith(7, n)+behind), api.ErrKind)
			fails(t, "justice in a line of eight", []byte(strings.TrimSuffix(firstWith(7, n), " 0")+behind), api.ErrKind)
			fails(t, "both", []byte("aig 0 0 0 0 0 0 0 1 "+strconv.Itoa(n)+behind), api.ErrKind)
		}
	}
	reads(t, "none of them", []byte("aig 0 0 0 0 0 0 0 0 0\n"), api.Circuit{})
	reads(t, "no justice", []byte("aig 0 0 0 0 0 0 0 0\n"), api.Circuit{})
}

// The variables are as many as inputs, latches and gates together: outputs, bad literals and constraints are none.
func TestNumbersOfVariables(t *testing.T) {
	for vars := range 6 {
		for inputs := range 3 {
			for latches := range 3 {
				for ands := range 3 {
					for _, props := range [][3]int{{0, 0, 0}, {1, 0, 0}, {0, 1, 0}, {0, 0, 1}, {2, 1, 1}} {
						lines := []string{"aig " + row(vars, inputs, latches, props[0], ands, props[1], props[2])}
						lines = append(lines, slices.Repeat([]string{"0"}, latches+props[0]+props[1]+props[2])...)
						b := inBytes(lines, bytes.Repeat([]byte{1, 0}, ands)...)
						e := readsAsWanted(t, "so many variables", b)
						if (e == api.OK) != (vars == inputs+latches+ands) || e != api.OK && e != api.ErrBad {
							t.Fatalf("%s has the error %d", short(b), e)
						}
					}
				}
			}
		}
	}
	for _, line := range []string{"aig 1 0 0 0 0", "aig 0 1 0 0 0", "aig 0 0 1 0 0", "aig 0 0 0 0 1", "aig 1000 999 0 0 0", "aig 999 1000 0 0 0", "aig 1000 500 500 0 1", "aig 1000 334 333 0 334", "aig 1000 1000 1000 0 1000", "aig 1 0 0 1 0", "aig 1 0 0 0 0 1", "aig 1 0 0 0 0 0 1"} {
		fails(t, "another sum", []byte(line+"\n"), api.ErrBad)
		fails(t, "another sum, and lines", []byte(line+"\n"+strings.Repeat("0\n", 1000)), api.ErrBad)
		fails(t, "another sum, and what is no line", []byte(line+"\nx"), api.ErrBad)
	}
}

// All bytes that end within the lines, at each place.
func TestLinesThatAreNotThere(t *testing.T) {
	p := exampleParts()
	lines := []byte(joined(p.lines...))
	for end := range lines {
		fails(t, "the lines end", lines[:end], api.ErrForm)
	}
	fails(t, "no gates", lines, api.ErrNone)
	for place, part := range []string{"", "", "3", "0", "", "0", "0"} {
		if part == "" {
			continue
		}
		for _, n := range []int{1, 2, 7, 100} {
			counts := make([]int, 9)
			counts[place] = n
			if place == 2 {
				counts[0] = n
			}
			for told := range n {
				lines := append([]string{"aig " + row(counts...)}, slices.Repeat([]string{part}, told)...)
				fails(t, "a line less", inBytes(lines), api.ErrForm)
				fails(t, "an empty line", inBytes(append(lines, "")), api.ErrForm)
				fails(t, "a comment", inBytes(append(lines, "c", part)), api.ErrForm)
				fails(t, "no line feed", append(inBytes(lines), part...), api.ErrForm)
			}
			lines := append([]string{"aig " + row(counts...)}, slices.Repeat([]string{part}, n)...)
			if e := readsAsWanted(t, "all lines", inBytes(lines)); e != api.OK {
				t.Errorf("%q has the error %d", lines, e)
			}
			fails(t, "a line more", inBytes(append(lines, part)), api.ErrMore)
		}
	}
}

// Empty lines are as told nowhere; but behind lines the bytes of gates may begin with a line feed.
func TestEmptyLines(t *testing.T) {
	p := exampleParts()
	for i := range p.lines {
		other := p.cloned()
		other.lines = slices.Insert(other.lines, i, "")
		fails(t, "a line more", other.bytes(), api.ErrForm)
		other = p.cloned()
		other.lines[i] = ""
		fails(t, "in place of a line", other.bytes(), api.ErrForm)
	}
	for i := range len(p.behind) + 1 {
		other := p.cloned()
		other.behind = slices.Insert(other.behind, i, "")
		fails(t, "behind the gates", other.bytes(), api.ErrMore)
	}
	for n := 1; n < 4; n++ {
		fails(t, "at the end", append(p.bytes(), bytes.Repeat([]byte{10}, n)...), api.ErrMore)
		reads(t, "behind the end", append(p.bytes(), "c"+strings.Repeat("\n", n)...), example())
	}
	fails(t, "behind the first line", []byte("aig 0 0 0 0 0\n\n"), api.ErrMore)
	reads(t, "none", []byte("aig 0 0 0 0 0\n"), api.Circuit{})
}

// Lines behind the gates begin with one of five letters.
func TestLettersBehindTheGates(t *testing.T) {
	starts := [][]byte{exampleParts().bytes(), parts{lines: exampleParts().lines, gates: exampleParts().gates}.bytes(), []byte("aig 0 0 0 0 0\n"), []byte("aig 1 1 0 0 0\n")}
	for _, start := range starts {
		want, e := wanted(start)
		if e != api.OK {
			t.Fatal(start, e)
		}
		with := func(more string) []byte { return slices.Concat(start, []byte(more)) }
		for b := range 256 {
			first := string([]byte{byte(b)})
			if first == "\n" {
				continue
			}
			for _, more := range []string{"", "0", "0 name", " ", "c", "\x00", "i"} {
				if strings.Contains("ilobc", first) {
					reads(t, "a letter", with(first+more), want)
					reads(t, "a letter and a line feed", with(first+more+"\n"), want)
					continue
				}
				fails(t, "another byte", with(first+more), api.ErrMore)
				fails(t, "another byte and a line feed", with(first+more+"\n"), api.ErrMore)
				fails(t, "another byte behind a symbol", with("i0 x\n"+first+more+"\n"), api.ErrMore)
				reads(t, "behind the end", with("i0 x\nc\n"+first+more+"\n"), want)
			}
		}
		for _, other := range []string{" i0 x", " c", "I0 x", "C", "j0 x", "f0 x", "a0", "0", "2", "2 3", "aig 0 0 0 0 0", "ï0", "\tc", "\xef\xbb\xbfc", " ", "\r"} {
			fails(t, "another line", with(other+"\nc\n"), api.ErrMore)
		}
	}
}
