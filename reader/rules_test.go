package reader_test

import (
	"math/rand"
	"reflect"
	"slices"
	"strings"
	"sync"
	"testing"

	"spiritlevel/api"
	"spiritlevel/reader"
)

// P1: R1 to R7. That errors come in order, and alone, is tested in lines_test.go and wrong_test.go.

// overwritten changes all the memory of a list.
func overwritten[T any](list []T, with T) {
	list = list[:cap(list)]
	for i := range list {
		list[i] = with
	}
}

// Each list of a result has memory of its own.
func TestResultsShareNoMemory(t *testing.T) {
	define, latch, and := api.Define{Lit: 77, A: 78, B: 79}, api.Latch{Next: 77, Reset: 78}, api.And{A: 77, B: 78}
	for _, s := range []string{joined(exampleLines()...), textIn(example(), style{asBad: true}), textIn(full(), style{}), textIn(longest(), style{asBad: true})} {
		want, _, _ := reader.Raw(s)
		for i := range 5 {
			r, _, _ := reader.Raw(s)
			switch i {
			case 0:
				overwritten(r.Inputs, 77)
				r.Inputs = slices.Clone(want.Inputs)
			case 1:
				overwritten(r.Latches, define)
				r.Latches = slices.Clone(want.Latches)
			case 2:
				overwritten(r.Ands, define)
				r.Ands = slices.Clone(want.Ands)
			case 3:
				overwritten(r.Bads, 77)
				r.Bads = slices.Clone(want.Bads)
			case 4:
				overwritten(r.Constraints, 77)
				r.Constraints = slices.Clone(want.Constraints)
			}
			if !same(r, want) {
				t.Errorf("after the list %d was changed, the others of %s are those of %+v", i, short(s), r)
			}
		}
		wantCircuit, _, _ := reader.Circuit(s)
		for i := range 4 {
			c, _, _ := reader.Circuit(s)
			switch i {
			case 0:
				overwritten(c.Latches, latch)
				c.Latches = slices.Clone(wantCircuit.Latches)
			case 1:
				overwritten(c.Ands, and)
				c.Ands = slices.Clone(wantCircuit.Ands)
			case 2:
				overwritten(c.Bads, 77)
				c.Bads = slices.Clone(wantCircuit.Bads)
			case 3:
				overwritten(c.Constraints, 77)
				c.Constraints = slices.Clone(wantCircuit.Constraints)
			}
			if !sameCircuit(c, wantCircuit) {
				t.Errorf("after the list %d was changed, the others of %s are those of %+v", i, short(s), c)
			}
		}
	}
}

// A call does not see what became of the results of another one.
func TestNothingIsKept(t *testing.T) {
	rnd := rand.New(rand.NewSource(86))
	var texts []string
	for r := range raws() {
		texts = append(texts, textIn(r, drawnStyle(rnd)), changed(rnd, textIn(r, drawnStyle(rnd))))
	}
	var group sync.WaitGroup
	for range 4 {
		for _, s := range texts {
			group.Go(func() {
				want, wantLine, wantError := wanted(s)
				for range 2 {
					r, line, e := reader.Raw(s)
					if !same(r, want) || line != wantLine || e != wantError {
						t.Errorf("Raw of %s = %+v, %d, %d; want %+v, %d, %d", short(s), r, line, e, want, wantLine, wantError)
					}
					overwritten(r.Inputs, 77)
					overwritten(r.Bads, 77)
					overwritten(r.Constraints, 77)
					reader.Circuit("aag 0 0 0 0 0 0 0 1")
				}
			})
		}
	}
	group.Wait()
}

// A text stays as it is.
func TestTextsAreOnlyRead(t *testing.T) {
	rnd := rand.New(rand.NewSource(87))
	for r := range raws() {
		s := textIn(r, drawnStyle(rnd))
		before := strings.Clone(s)
		reader.Raw(s)
		reader.Circuit(s)
		if s != before {
			t.Fatalf("the text %s became %s", short(before), short(s))
		}
	}
}

// With an error all fields are zero.
func TestZeroValuesBesideErrors(t *testing.T) {
	for _, f := range slices.Concat(lineFaults(), rawFaults()) {
		if r, _, e := reader.Raw(with(f)); e == api.OK || !reflect.ValueOf(r).IsZero() {
			t.Errorf("%s: Raw = %+v, %d", f.name, r, e)
		}
		if c, _, e := reader.Circuit(with(f)); e == api.OK || !reflect.ValueOf(c).IsZero() {
			t.Errorf("%s: Circuit = %+v, %d", f.name, c, e)
		}
	}
}

// Texts that are changed in some places are read as by the reader of the tests, or fail as there.
func TestChangedTexts(t *testing.T) {
	rnd := rand.New(rand.NewSource(88))
	seen := map[api.Errno]int{}
	for range 60000 {
		s := changed(rnd, textIn(drawnRaw(rnd, rnd.Intn(4)), drawnStyle(rnd)))
		_, _, e := wanted(s)
		seen[e]++
		readsAsWanted(t, "a changed text", s)
		if t.Failed() {
			return
		}
	}
	for _, e := range []api.Errno{api.OK, api.ErrForm, api.ErrRange, api.ErrKind, api.ErrMore, api.ErrBad, api.ErrTwice, api.ErrOpen, api.ErrCycle} {
		if seen[e] < 10 {
			t.Errorf("the error %d came %d times", e, seen[e])
		}
	}
}

// Texts of any bytes, and of what texts are made of.
func TestNothingPanics(t *testing.T) {
	rnd := rand.New(rand.NewSource(89))
	pieces := []string{"aag ", "aag", " ", "\n", "\n", "\n", "0", "0 ", "1", "2", "2 ", "3", "9", "10", "c", "c\n", "i0", "aag 1 1 0 0 0\n", "aag 2 1 1 0 0\n", "aag 2 0 1 1 1\n", "1000", "999999999", "\x00", "\xff", "\r"}
	for range 40000 {
		var b strings.Builder
		for range rnd.Intn(12) {
			b.WriteString(pieces[rnd.Intn(len(pieces))])
		}
		readsAsWanted(t, "pieces", b.String())
		bytes := make([]byte, rnd.Intn(20))
		rnd.Read(bytes)
		readsAsWanted(t, "bytes", string(bytes))
		if t.Failed() {
			return
		}
	}
	for _, size := range []int{39999, 40000, 40001, 1 << 20} {
		for b := range 256 {
			readsAsWanted(t, "the same bytes", strings.Repeat(string([]byte{byte(b)}), size))
		}
	}
}

func FuzzTexts(f *testing.F) {
	for _, s := range []string{"", "aag 1 0 1", "aag 0 0 0 0 0 0 0 1", "aag 1 0 1 0 0 1\n2 3\n2\n", joined(exampleLines()...), textIn(example(), style{asBad: true})} {
		f.Add(s)
	}
	f.Fuzz(func(t *testing.T, s string) {
		readsAsWanted(t, "a text", s)
		rereads(t, s)
	})
}
