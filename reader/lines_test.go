package reader_test

import (
	"fmt"
	"regexp"
	"slices"
	"strconv"
	"strings"
	"testing"

	"spiritlevel/api"
	"spiritlevel/reader"
)

// P8.1: lines that are not as told, one in each text. Several faults, and those of order.Check, are in wrong_test.go.

// The first line's numbers are from 5 to 9.
func TestFirstLinesWithTooFewAndTooManyNumbers(t *testing.T) {
	for n := range 15 {
		line := "aag" + strings.Repeat(" 0", n)
		for _, s := range []string{line, line + "\n", line + "\nc\n", line + "\n0\n0\n0\n"} {
			switch {
			case n < 5 || n > 9:
				fails(t, "so many numbers", s, 1, api.ErrForm)
			case strings.Contains(s, "\n0"):
				fails(t, "too many lines", s, 2, api.ErrMore)
			default:
				reads(t, "so many numbers", s, api.Raw{})
			}
		}
	}
	fails(t, "many numbers", "aag"+strings.Repeat(" 0", 19990), 1, api.ErrForm)
}

func TestFirstLinesThatAreNotAsTold(t *testing.T) {
	for _, line := range []string{
		"", " ", "a", "aa", "aag", "aag ", "aag  ", "0", "0 0 0 0 0", "c", "i0",
		"aig 0 0 0 0 0", "AAG 0 0 0 0 0", "Aag 0 0 0 0 0", "ag 0 0 0 0 0", "aaag 0 0 0 0 0", "aagg 0 0 0 0 0", "aag0 0 0 0 0", "aag0 0 0 0 0 0",
		" aag 0 0 0 0 0", "aag  0 0 0 0 0", "aag 0  0 0 0 0", "aag 0 0 0 0  0", "aag 0 0 0 0 0 ", "aag 0 0 0 0 0  ", "aag 0 0 0 0 0\r", "aag 0 0 0 0 0\t", "aag 0 0 0 0 0\x00",
		"aag\t0 0 0 0 0", "aag 0\t0 0 0 0", "aag 0 0 0 0\t0", "\taag 0 0 0 0 0", "\ufeffaag 0 0 0 0 0", "aag\u00a00 0 0 0 0", "aag 0 0 0 0\u00a00", "aag 0,0,0,0,0", "aag aag 0 0 0 0 0", "aag 0 0 0 0 aag",
		"aag 0 0 0 0 x", "aag x 0 0 0 0", "aag 0 0 0 0 0 x", "aag 0 0 0 0 0 0 0 0 x", "aag 0 0 0 0 0 # none", "aag 0 0 0 0 0\v", "aag 0 0 0 0 0\f",
	} {
		fails(t, "a first line", line, 1, api.ErrForm)
		fails(t, "a first line, and a line feed", line+"\n", 1, api.ErrForm)
		fails(t, "a first line behind which there is one", line+"\naag 0 0 0 0 0\n", 1, api.ErrForm)
	}
}

func TestNoTextAtAll(t *testing.T) {
	for _, s := range []string{"", "\n", "\n\n", "\n\n\n", "\naag 0 0 0 0 0", "\naag 0 0 0 0 0\n"} {
		fails(t, "no first line", s, 1, api.ErrForm)
	}
}

// wrongWords are no numbers.
func wrongWords() []string {
	return []string{
		"", "-", "+", "-1", "+1", "-0", "+0", "--1", "00", "01", "02", "010", "000000000", "000000001", "0000000000", "1000000000", "1234567890", "9999999999", "4294967296", "18446744073709551616",
		"99999999999999999999999999999999", "1.0", "1e3", "1_0", "0x1", "0b1", "0o7", "1,", ",1", "a", "c", "i0", "1a", "a1", "٣", "１", "²", "1\x00", "\x00", "\xff", "1\r", "\t1", "1\t", "\u00a01", "NaN", "true", strings.Repeat("1", 30000),
	}
}

// A word that is no number is none in any place of a text.
func TestWordsThatAreNoNumbers(t *testing.T) {
	lines := exampleLines()
	for i, line := range lines[:len(lines)-2] {
		for j, old := range strings.Split(line, " ") {
			for _, word := range wrongWords() {
				words := strings.Split(line, " ")
				words[j] = word
				other := slices.Clone(lines)
				other[i] = strings.Join(words, " ")
				fails(t, fmt.Sprintf("the word %d of the line %d, which was %s,", 1+j, 1+i, old), joined(other...), 1+i, api.ErrForm)
			}
		}
		if t.Failed() {
			return
		}
	}
}

// All words of up to four bytes of some, as an output that does not count.
func TestShortWords(t *testing.T) {
	asTold := regexp.MustCompile(`\A(0|[1-9][0-9]*)\z`)
	words := []string{""}
	for at := 0; at < len(words); at++ {
		word := words[at]
		s := joined("aag 0 0 0 1 0 1", word, "1")
		if !strings.Contains(word, "\n") && !asTold.MatchString(word) {
			fails(t, "no number", s, 2, api.ErrForm)
		} else if !strings.Contains(word, "\n") {
			reads(t, "a number", s, api.Raw{Bads: []int{1}})
		} else {
			readsAsWanted(t, "two lines", s)
		}
		if len(word) < 4 {
			for _, c := range "0159 +-_.xa\t\r\n/:" {
				words = append(words, word+string(c))
			}
		}
		if t.Failed() {
			return
		}
	}
}

// Each digit may stand in each place of a number, but 0 in front.
func TestDigits(t *testing.T) {
	for size := 1; size <= 11; size++ {
		for place := range size {
			for digit := range 10 {
				word := []byte(strings.Repeat("1", size))
				word[place] = '0' + byte(digit)
				s := joined("aag 0 0 0 1 0 1", string(word), "1")
				if size > 9 || (place == 0 && digit == 0 && size > 1) {
					fails(t, "no number", s, 2, api.ErrForm)
				} else {
					reads(t, "a number", s, api.Raw{Bads: []int{1}})
				}
			}
		}
	}
}

// Each literal that there may be is read.
func TestLiterals(t *testing.T) {
	inputs, r := "", api.Raw{Most: 1000}
	for i := range 1000 {
		r.Inputs = append(r.Inputs, 2+2*i)
		inputs += strconv.Itoa(2+2*i) + "\n"
	}
	for l := range 2002 {
		r.Bads = []int{l}
		if got, line, e := reader.Raw("aag 1000 1000 0 1 0\n" + inputs + strconv.Itoa(l)); !same(got, r) || line != 0 || e != api.OK {
			t.Fatalf("with the output %d Raw = %v, %d, %d", l, got.Bads, line, e)
		}
	}
	fails(t, "a literal too great", "aag 1000 1000 0 1 0\n"+inputs+"2002", 0, api.ErrBad)
}

// spacedOut are what a line may become by white space that should not be there.
func spacedOut(line string) []string {
	all := []string{" " + line, line + " ", "  " + line, line + "  ", "\t" + line, line + "\t", line + "\r", "\r" + line, line + "\v", line + "\f", line + "\x00", "\x00" + line, line + "\u00a0", line + "\u2003", "\ufeff" + line}
	for i, c := range line {
		if c == ' ' {
			for _, between := range []string{"  ", "   ", "\t", " \t", "\t ", "\r", "\v", "\f", "\x00", "\u00a0", "\u2003", ",", "\x1f", "!"} {
				all = append(all, line[:i]+between+line[i+1:])
			}
		}
	}
	return all
}

// Between two numbers there is one blank, and no other white space anywhere.
func TestWhiteSpace(t *testing.T) {
	lines := exampleLines()
	for i, line := range lines[:len(lines)-2] {
		for _, spaced := range spacedOut(line) {
			other := slices.Clone(lines)
			other[i] = spaced
			fails(t, "white space", joined(other...), 1+i, api.ErrForm)
		}
	}
	// Line feeds are all that ends a line.
	for _, feed := range []string{"\r\n", "\r", "\n\r", "\n\n", " \n", "\n ", "\u2028", "\u0085", "\v", "\f"} {
		line := 1
		if strings.HasPrefix(feed, "\n") {
			line = 2
		}
		fails(t, "line feeds", strings.Join(lines, feed), line, api.ErrForm)
	}
}

// A line has as many numbers as it should have; only a latch may have one more.
func TestNumbersOfALine(t *testing.T) {
	for _, x := range []struct {
		name        string
		first       string
		least, most int
	}{
		{"an input", "aag 4 1 0 0 0", 1, 1}, {"a latch", "aag 4 0 1 0 0", 2, 3}, {"an output", "aag 4 0 0 1 0", 1, 1}, {"a gate", "aag 4 0 0 0 1", 3, 3},
		{"a bad literal", "aag 4 0 0 0 0 1", 1, 1}, {"a constraint", "aag 4 0 0 0 0 0 1", 1, 1},
		{"an output that does not count", "aag 4 0 0 1 0 1", 1, 1},
	} {
		for n := range 8 {
			line := strings.Join(slices.Repeat([]string{"1"}, n), " ")
			if n < x.least || n > x.most {
				fails(t, x.name, joined(x.first, line, "1"), 2, api.ErrForm)
				fails(t, x.name, x.first+"\n"+line, 2, api.ErrForm)
			}
		}
		for _, line := range []string{"c", "i0", "aag", x.first, "x", "-", "\x00"} {
			fails(t, x.name, joined(x.first, line, "1"), 2, api.ErrForm)
		}
	}
	lines := exampleLines()
	for i, line := range lines[1 : len(lines)-2] {
		for _, other := range []string{line + " 0 0 0", line + " " + line + " " + line, ""} {
			wrong := slices.Clone(lines)
			wrong[1+i] = other
			fails(t, "a line", joined(wrong...), 2+i, api.ErrForm)
		}
	}
}

func TestResetsThatAreNone(t *testing.T) {
	for _, told := range []string{"2", "3", "5", "6", "8", "40", "44", "04", "-4", "+4", "4 4", "00", "01", "-1", "4 ", " 4", "x", "999999999", "4000000000"} {
		fails(t, "a reset", joined("aag 3 0 1 0 0", "4 5 "+told), 2, api.ErrForm)
		fails(t, "a reset of the second latch", joined("aag 3 0 2 0 0", "2 5 2", "4 5 "+told), 3, api.ErrForm)
		fails(t, "a reset of the first latch", joined("aag 3 0 2 0 0", "4 5 "+told, "2 5 2"), 2, api.ErrForm)
	}
	for n := range 2002 {
		s := joined("aag 1000 0 1 0 0", "2 0 "+strconv.Itoa(n))
		if n > 2 {
			fails(t, "a reset", s, 2, api.ErrForm)
		} else {
			reads(t, "a reset", s, api.Raw{Most: 1000, Latches: []api.Define{{Lit: 2, B: n}}})
		}
	}
	// What is next, and the negation, is no reset.
	fails(t, "the next literal", joined("aag 3 0 2 0 0", "2 6 6", "6 0"), 2, api.ErrForm)
	fails(t, "the negation", joined("aag 3 0 1 0 0", "6 2 7"), 2, api.ErrForm)
	// A literal that is not valid is not looked at before all lines are read.
	fails(t, "a latch 0", joined("aag 3 0 1 0 0", "0 0 0"), 0, api.ErrBad)
	fails(t, "a latch 1", joined("aag 3 0 1 0 0", "1 0 1"), 0, api.ErrBad)
	fails(t, "a latch 7", joined("aag 3 0 1 0 0", "7 0 7"), 0, api.ErrBad)
	fails(t, "a latch 7 with another reset", joined("aag 3 0 1 0 0", "7 0 6"), 2, api.ErrForm)
}

// firstWith returns a first line of nine numbers, which are 0 but for one.
func firstWith(place, n int) string {
	counts := make([]int, 9)
	counts[place] = n
	return "aag " + row(counts...)
}

// MaxVars is the greatest number of the first line, in each place but the last two.
func TestRangeOfTheFirstLine(t *testing.T) {
	for place := range 7 {
		for _, n := range []int{1001, 1002, 2000, 9999, 10000, 123456789, 999999999} {
			line := firstWith(place, n)
			fails(t, "a number too great", line, 1, api.ErrRange)
			fails(t, "a number too great, and no line of its own", line+"\n", 1, api.ErrRange)
			fails(t, "a number too great, and lines", joined(line, strings.Repeat("0\n", 2000)), 1, api.ErrRange)
		}
		for _, n := range []int{1, 999, 1000} {
			if place > 0 {
				fails(t, "a number, and no line of its own", firstWith(place, n), 2, api.ErrForm)
			} else {
				reads(t, "Most", firstWith(place, n), api.Raw{Most: n})
			}
		}
	}
	fails(t, "all are the greatest", joined("aag 1000 1000 1000 1000 1000 1000 1000 0 0"), 2, api.ErrForm)
	fails(t, "one too many of all", joined("aag 1001 1001 1001 1001 1001 1001 1001 0 0"), 1, api.ErrRange)
	for n := 5; n < 10; n++ {
		for place := range min(n, 7) {
			words := strings.Split("aag"+strings.Repeat(" 0", n), " ")
			words[1+place] = "1001"
			fails(t, "fewer numbers", strings.Join(words, " "), 1, api.ErrRange)
		}
	}
	for place := range 9 {
		for _, word := range []string{"1000000000", "-1", "01001", "1001x"} {
			words := strings.Split("aag 0 0 0 0 0 0 0 0 0", " ")
			words[1+place] = word
			fails(t, "no number", strings.Join(words, " "), 1, api.ErrForm)
		}
	}
}

// Justices and fairness constraints are not read.
func TestKinds(t *testing.T) {
	for _, n := range []int{1, 2, 10, 999, 1000, 1001, 2000, 123456789, 999999999} {
		for _, behind := range []string{"", "\n", "\n1\n0\n0\n", "\nc\n"} {
			fails(t, "fairness", firstWith(8, n)+behind, 1, api.ErrKind)
			fails(t, "justice", firstWith(7, n)+behind, 1, api.ErrKind)
			fails(t, "justice in a line of eight", strings.TrimSuffix(firstWith(7, n), " 0")+behind, 1, api.ErrKind)
			fails(t, "both", "aag 0 0 0 0 0 0 0 1 "+strconv.Itoa(n)+behind, 1, api.ErrKind)
		}
	}
	reads(t, "none of them", "aag 0 0 0 0 0 0 0 0 0", api.Raw{})
	reads(t, "no justice", "aag 0 0 0 0 0 0 0 0", api.Raw{})
}

// A line that is not there has a number, too.
func TestLinesThatAreNotThere(t *testing.T) {
	for place, part := range []string{"", "2", "2 3", "0", "2 1 0", "0", "0"} {
		if place == 0 {
			continue
		}
		for _, n := range []int{1, 2, 7, 100} {
			for told := range n {
				lines := []string{firstWith(place, n)}
				lines = append(lines, slices.Repeat([]string{part}, told)...)
				fails(t, "a line less", joined(lines...), 2+told, api.ErrForm)
				fails(t, "a line less, without a line feed", strings.Join(lines, "\n"), 2+told, api.ErrForm)
				fails(t, "an empty line", joined(lines...)+"\n", 2+told, api.ErrForm)
				fails(t, "a comment", joined(lines...)+"c\n"+part+"\n", 2+told, api.ErrForm)
			}
		}
	}
}

// Empty lines are as told nowhere.
func TestEmptyLines(t *testing.T) {
	lines := exampleLines()
	for i := range lines {
		e := api.ErrForm
		if i >= len(lines)-2 {
			e = api.ErrMore
		}
		fails(t, "a line more", joined(slices.Insert(slices.Clone(lines), i, "")...), 1+i, e)
		other := slices.Clone(lines)
		other[i] = ""
		fails(t, "in place of a line", joined(other...), 1+i, e)
	}
	for n := 1; n < 4; n++ {
		fails(t, "at the end", joined(lines...)+strings.Repeat("\n", n), 1+len(lines), api.ErrMore)
		reads(t, "behind the end", joined(lines...)+"c"+strings.Repeat("\n", n), example())
	}
	fails(t, "behind the first line", "aag 0 0 0 0 0\n\n", 2, api.ErrMore)
	reads(t, "none", "aag 0 0 0 0 0\n", api.Raw{})
}

// Lines behind the gates begin with one of five letters.
func TestLettersBehindTheGates(t *testing.T) {
	starts := []string{joined(exampleLines()...), joined(exampleLines()[:13]...), "aag 0 0 0 0 0\n", "aag 1 1 0 0 0\n2\n"}
	for _, start := range starts {
		want, _, e := wanted(start)
		if e != api.OK {
			t.Fatal(start, e)
		}
		line := 1 + strings.Count(start, "\n")
		for b := range 256 {
			first := string([]byte{byte(b)})
			if first == "\n" {
				continue
			}
			for _, more := range []string{"", "0", "0 name", " ", "c", "\x00", "i"} {
				if strings.Contains("ilobc", first) {
					reads(t, "a letter", start+first+more, want)
					reads(t, "a letter and a line feed", start+first+more+"\n", want)
					continue
				}
				fails(t, "another byte", start+first+more, line, api.ErrMore)
				fails(t, "another byte and a line feed", start+first+more+"\n", line, api.ErrMore)
				fails(t, "another byte behind a symbol", start+"i0 x\n"+first+more+"\n", 1+line, api.ErrMore)
				reads(t, "behind the end", start+"i0 x\nc\n"+first+more+"\n", want)
			}
		}
		for _, other := range []string{" i0 x", " c", "I0 x", "C", "j0 x", "f0 x", "a0", "0", "2", "2 3", "aag 0 0 0 0 0", "ï0", "\tc", "\xef\xbb\xbfc", " ", "\r"} {
			fails(t, "another line", start+other+"\nc\n", line, api.ErrMore)
		}
	}
}
