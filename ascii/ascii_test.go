package ascii_test

import (
	"slices"
	"strings"
	"testing"

	"spiritlevel/api"
	"spiritlevel/ascii"
	"spiritlevel/gates"
	"spiritlevel/order"
)

// shows tests that a raw circuit has these lines, and so many of them.
func shows(t *testing.T, name string, r api.Raw, lines ...string) {
	t.Helper()
	want := strings.Join(lines, "\n") + "\n"
	if s, e := ascii.Raw(r); s != want || e != api.OK {
		t.Errorf("%s: Raw = %q, %d; want %q", name, s, e, want)
	}
	if n, e := ascii.Lines(r); n != len(lines) || e != api.OK {
		t.Errorf("%s: Lines = %d, %d; want %d", name, n, e, len(lines))
	}
}

// P7.1

func TestExamplesOfTheChapter(t *testing.T) {
	for reset, line := range []string{"2 3", "2 3 1", "2 3 2"} {
		r := api.Raw{Most: 1, Latches: []api.Define{{Lit: 2, A: 3, B: reset}}, Bads: []int{2}}
		shows(t, line, r, "aag 1 0 1 0 0 1 0", line, "2")
		c := api.Circuit{Latches: []api.Latch{{Next: 3, Reset: reset}}, Bads: []int{2}}
		if s, want := circuitTextOf(t, c), "aag 1 0 1 0 0 1 0\n"+line+"\n2\n"; s != want {
			t.Errorf("Text = %q; want %q", s, want)
		}
	}
}

func TestNoneOfSome(t *testing.T) {
	shows(t, "none of all", api.Raw{}, "aag 0 0 0 0 0 0 0")
	shows(t, "nothing is defined", api.Raw{Most: 7}, "aag 7 0 0 0 0 0 0")
	shows(t, "the greatest Most alone", api.Raw{Most: 1000}, "aag 1000 0 0 0 0 0 0")
	shows(t, "an input alone", api.Raw{Most: 1, Inputs: []int{2}}, "aag 1 1 0 0 0 0 0", "2")
	shows(t, "a latch alone", api.Raw{Most: 1, Latches: []api.Define{{Lit: 2}}}, "aag 1 0 1 0 0 0 0", "2 0")
	shows(t, "a gate alone", api.Raw{Most: 1, Ands: []api.Define{{Lit: 2}}}, "aag 1 0 0 0 1 0 0", "2 0 0")
	shows(t, "a bad literal alone", api.Raw{Bads: []int{0}}, "aag 0 0 0 0 0 1 0", "0")
	shows(t, "a constraint alone", api.Raw{Constraints: []int{1}}, "aag 0 0 0 0 0 0 1", "1")
	one := func() api.Raw {
		return api.Raw{Most: 3, Inputs: []int{6}, Latches: []api.Define{{Lit: 4, A: 1, B: 2}}, Ands: []api.Define{{Lit: 2, A: 0, B: 1}}, Bads: []int{0}, Constraints: []int{1}}
	}
	r := one()
	shows(t, "one of each", r, "aag 3 1 1 0 1 1 1", "6", "4 1 4", "0", "1", "2 0 1")
	r.Inputs = nil
	shows(t, "no inputs", r, "aag 3 0 1 0 1 1 1", "4 1 4", "0", "1", "2 0 1")
	r = one()
	r.Latches = nil
	shows(t, "no latches", r, "aag 3 1 0 0 1 1 1", "6", "0", "1", "2 0 1")
	r = one()
	r.Ands = nil
	shows(t, "no gates", r, "aag 3 1 1 0 0 1 1", "6", "4 1 4", "0", "1")
	r = one()
	r.Bads = nil
	shows(t, "no bad literals", r, "aag 3 1 1 0 1 0 1", "6", "4 1 4", "1", "2 0 1")
	r = one()
	r.Constraints = nil
	shows(t, "no constraints", r, "aag 3 1 1 0 1 1 0", "6", "4 1 4", "0", "2 0 1")
}

func TestSeveralOfEach(t *testing.T) {
	shows(t, "two of each", example(), exampleLines()...)
	// The numbers of the first line are different ones.
	shows(t, "one to five of each", api.Raw{
		Most:        40,
		Inputs:      []int{30},
		Latches:     []api.Define{{Lit: 16, A: 17, B: 1}, {Lit: 20, A: 80 - 50, B: 0}},
		Ands:        []api.Define{{Lit: 6, A: 4, B: 31}, {Lit: 4, A: 21, B: 16}, {Lit: 2, A: 6, B: 6}},
		Bads:        []int{7, 2, 5, 3},
		Constraints: []int{1, 1, 0, 17, 16},
	}, "aag 40 1 2 0 3 4 5", "30", "16 17 1", "20 30", "7", "2", "5", "3", "1", "1", "0", "17", "16", "6 4 31", "4 21 16", "2 6 6")
	shows(t, "all resets, twice", api.Raw{
		Most:    6,
		Latches: []api.Define{{Lit: 12, B: 2}, {Lit: 2, B: 1}, {Lit: 4, B: 0}, {Lit: 6, B: 0}, {Lit: 10, B: 1}, {Lit: 8, B: 2}},
	}, "aag 6 0 6 0 0 0 0", "12 0 12", "2 0 1", "4 0", "6 0", "10 0 1", "8 0 8")
	// What is told behind the next literal is the reset, whatever this literal is.
	for l, next := range []string{"2 0", "2 1", "2 2", "2 3"} {
		for reset, behind := range []string{"", " 1", " 2"} {
			shows(t, "a reset behind "+next, api.Raw{Most: 1, Latches: []api.Define{{Lit: 2, A: l, B: reset}}}, "aag 1 0 1 0 0 0 0", next+behind)
		}
	}
}

func TestMostAboveWhatIsUsed(t *testing.T) {
	for _, x := range []struct {
		most  int
		first string
	}{{9, "aag 9 2 2 0 2 2 2"}, {10, "aag 10 2 2 0 2 2 2"}, {99, "aag 99 2 2 0 2 2 2"}, {100, "aag 100 2 2 0 2 2 2"}, {999, "aag 999 2 2 0 2 2 2"}, {1000, "aag 1000 2 2 0 2 2 2"}} {
		r := example()
		r.Most = x.most
		lines := exampleLines()
		lines[0] = x.first
		shows(t, x.first, r, lines...)
	}
	r := example()
	r.Most = 7
	if s := textOf(t, r); !strings.HasPrefix(s, "aag 7 2 2 0 2 2 2\n12\n") {
		t.Errorf("with the least Most the text is %q", s)
	}
}

func TestNumbersOfOneToFourDigits(t *testing.T) {
	r := api.Raw{
		Most:        1000,
		Inputs:      []int{8, 10, 98, 100, 998, 1000, 2000},
		Latches:     []api.Define{{Lit: 6, A: 9, B: 2}, {Lit: 96, A: 99, B: 2}, {Lit: 996, A: 999, B: 2}, {Lit: 1998, A: 2001, B: 2}},
		Ands:        []api.Define{{Lit: 2, A: 10, B: 100}, {Lit: 12, A: 1000, B: 7}, {Lit: 102, A: 0, B: 2000}, {Lit: 1002, A: 101, B: 11}},
		Bads:        []int{0, 9, 10, 99, 100, 999, 1000, 2001},
		Constraints: []int{1, 8, 11, 98, 101, 998, 1001, 2000},
	}
	shows(t, "digits", r, "aag 1000 7 4 0 4 8 8",
		"8", "10", "98", "100", "998", "1000", "2000",
		"6 9 6", "96 99 96", "996 999 996", "1998 2001 1998",
		"0", "9", "10", "99", "100", "999", "1000", "2001",
		"1", "8", "11", "98", "101", "998", "1001", "2000",
		"2 10 100", "12 1000 7", "102 0 2000", "1002 101 11")
	// Each number that there may be, as a bad literal.
	inputs := defined(1000, 0, 0, 0)
	for l := range 2002 {
		inputs.Bads = []int{l}
		if s := textOf(t, inputs); s != wantedText(inputs) {
			t.Fatalf("with the bad literal %d the text ends with %q", l, s[len(s)-12:])
		}
	}
}

// How many there are has one to four digits, too.
func TestNumbersOfTheFirstLine(t *testing.T) {
	for _, n := range []int{0, 1, 9, 10, 11, 99, 100, 101, 999, 1000} {
		for _, r := range []api.Raw{defined(n, 0, 0, 0), defined(0, n, 0, 0), defined(0, 0, n, 0), defined(0, 0, 0, n), defined(n/2, n/4, n/8, 3*(n/32))} {
			if s, want := textOf(t, r), wantedText(r); s != want {
				t.Errorf("the text of %d things is %q; want %q", n, s, want)
			}
			if got, want := linesOf(t, r), 1+len(r.Inputs)+len(r.Latches)+len(r.Ands); got != want {
				t.Errorf("Lines of %d things = %d; want %d", n, got, want)
			}
		}
		if n > 100 {
			continue
		}
		r := api.Raw{Bads: slices.Repeat([]int{1}, n), Constraints: slices.Repeat([]int{0}, 100-n)}
		if s, want := textOf(t, r), wantedText(r); s != want || linesOf(t, r) != 101 {
			t.Errorf("the text of %d bad literals is %q; want %q", n, s, want)
		}
	}
}

// Gates stand in the order of Ands, their parts in theirs, whatever the variables are.
func TestOrderOfGatesAndParts(t *testing.T) {
	ands := []api.Define{{Lit: 8, A: 2, B: 6}, {Lit: 6, A: 3, B: 4}, {Lit: 4, A: 2, B: 2}, {Lit: 10, A: 9, B: 8}}
	r := api.Raw{Most: 5, Inputs: []int{2}, Ands: ands}
	shows(t, "as they stand", r, "aag 5 1 0 0 4 0 0", "2", "8 2 6", "6 3 4", "4 2 2", "10 9 8")
	slices.Reverse(r.Ands)
	shows(t, "the last one first", r, "aag 5 1 0 0 4 0 0", "2", "10 9 8", "4 2 2", "6 3 4", "8 2 6")
	for i, d := range r.Ands {
		r.Ands[i].A, r.Ands[i].B = d.B, d.A
	}
	shows(t, "the second part first", r, "aag 5 1 0 0 4 0 0", "2", "10 8 9", "4 2 2", "6 4 3", "8 6 2")
}

func TestFull(t *testing.T) {
	r := full()
	s := textOf(t, r)
	if s != wantedText(r) || linesOf(t, r) != 1201 {
		t.Errorf("the text of 1,000 variables, in %d lines, is %q", linesOf(t, r), s)
	}
	lines := strings.Split(s, "\n")
	for i, want := range map[int]string{0: "aag 1000 300 300 0 400 100 100", 1: "2000", 300: "1402", 301: "802 2001", 302: "804 2000 1", 303: "806 1999 806", 600: "1400 1702 1400", 601: "2001", 700: "1308", 701: "0", 800: "1089", 801: "2 4 803", 1199: "798 800 1599", 1200: "800 2000 802", 1201: ""} {
		if lines[i] != want {
			t.Errorf("the line %d is %q; want %q", 1+i, lines[i], want)
		}
	}
}

func TestTextsOfRawCircuits(t *testing.T) {
	for r := range raws() {
		if s, want := textOf(t, r), wantedText(r); s != want {
			t.Fatalf("Raw(%+v) = %q; want %q", r, s, want)
		}
		if n, want := linesOf(t, r), strings.Count(wantedText(r), "\n"); n != want {
			t.Fatalf("Lines(%+v) = %d; want %d", r, n, want)
		}
	}
}

// P7.2

func TestTextsOfSomeCircuits(t *testing.T) {
	for _, x := range []struct {
		name  string
		c     api.Circuit
		lines []string
	}{
		{"none of all", api.Circuit{}, []string{"aag 0 0 0 0 0 0 0"}},
		{"inputs", api.Circuit{Inputs: 2}, []string{"aag 2 2 0 0 0 0 0", "2", "4"}},
		{"latches", api.Circuit{Latches: []api.Latch{{Next: 5, Reset: 2}, {Next: 2}}}, []string{"aag 2 0 2 0 0 0 0", "2 5 2", "4 2"}},
		{"gates", api.Circuit{Ands: []api.And{{A: 1}, {A: 3, B: 2}}}, []string{"aag 2 0 0 0 2 0 0", "2 1 0", "4 3 2"}},
		{"bad literals", api.Circuit{Bads: []int{1, 0, 0}}, []string{"aag 0 0 0 0 0 3 0", "1", "0", "0"}},
		{"constraints", api.Circuit{Constraints: []int{1, 0, 0}}, []string{"aag 0 0 0 0 0 0 3", "1", "0", "0"}},
		{
			"of layer 2's section Examples",
			api.Circuit{Inputs: 2, Latches: []api.Latch{{Next: 10}}, Ands: []api.And{{A: 4, B: 2}, {A: 8, B: 7}}, Bads: []int{10}},
			[]string{"aag 5 2 1 0 2 1 0", "2", "4", "6 10", "10", "8 4 2", "10 8 7"},
		},
		{
			"several of each",
			api.Circuit{Inputs: 3, Latches: []api.Latch{{Next: 15, Reset: 1}, {Next: 3, Reset: 2}, {}}, Ands: []api.And{{A: 11, B: 11}, {A: 14, B: 0}}, Bads: []int{16, 1, 17}, Constraints: []int{9, 0}},
			[]string{"aag 8 3 3 0 2 3 2", "2", "4", "6", "8 15 1", "10 3 10", "12 0", "16", "1", "17", "9", "0", "14 11 11", "16 14 0"},
		},
	} {
		if s, want := circuitTextOf(t, x.c), strings.Join(x.lines, "\n")+"\n"; s != want {
			t.Errorf("%s: Text = %q; want %q", x.name, s, want)
		}
	}
}

func TestTextsOfCircuits(t *testing.T) {
	for c := range circuits(t) {
		if s, want := circuitTextOf(t, c), wantedCircuitText(c); s != want {
			t.Fatalf("Text(%+v) = %q; want %q", c, s, want)
		}
	}
}

// A circuit as large as layer 2 allows.
func TestTextsOfTheLargestCircuits(t *testing.T) {
	c := api.Circuit{Inputs: 333, Bads: slices.Repeat([]int{2001}, 100), Constraints: slices.Repeat([]int{2000}, 100)}
	for i := range 333 {
		c.Latches = append(c.Latches, api.Latch{Next: 2001 - i, Reset: i % 3})
	}
	for i := range 334 {
		c.Ands = append(c.Ands, api.And{A: 2*(667+i) - 1 - i%2, B: 2 * i})
	}
	for _, c := range []api.Circuit{c, {Inputs: 1000}, {Latches: make([]api.Latch, 1000)}, {Ands: make([]api.And, 1000)}} {
		last, e := gates.Vars(c)
		if s, want := circuitTextOf(t, c), wantedCircuitText(c); s != want || last != 1000 || e != api.OK {
			t.Errorf("Text of %d variables = %q; want %q", last, s, want)
		}
		r, _ := order.Raw(c)
		if n, want := linesOf(t, r), 1001+len(c.Bads)+len(c.Constraints); n != want {
			t.Errorf("Lines = %d; want %d", n, want)
		}
	}
}
