package binary_test

import (
	"bytes"
	"math/rand"
	"reflect"
	"slices"
	"sync"
	"testing"

	"spiritlevel/api"
	"spiritlevel/binary"
)

// P1: R1 to R7. That errors come in order is tested in wrong_test.go.

// roomy returns a copy of a list with used memory behind its length.
func roomy[T any](list []T, behind ...T) []T {
	return append(slices.Clone(list), behind...)[:len(list)]
}

// whole returns a copy of all the memory of a list.
func whole[T any](list []T) []T { return slices.Clone(list[:cap(list)]) }

// overwritten changes all the memory of a list.
func overwritten[T any](list []T, with T) {
	list = list[:cap(list)]
	for i := range list {
		list[i] = with
	}
}

// samples returns bytes of circuits, right ones and wrong ones, and texts.
func samples() [][]byte {
	rnd := rand.New(rand.NewSource(105))
	var all [][]byte
	for c := range circuits() {
		all = append(all, bytesIn(c, drawnStyle(rnd)), changed(rnd, bytesIn(c, drawnStyle(rnd))))
	}
	for _, list := range faults() {
		for _, f := range list {
			all = append(all, with(f))
		}
	}
	for _, s := range textsOf[:len(textsOf)-1] {
		all = append(all, []byte(s))
	}
	return all
}

func TestBytesAreOnlyRead(t *testing.T) {
	for _, b := range samples() {
		b = roomy(b, 'c', '\n', 1, 2, 255)
		before := whole(b)
		binary.Read(b)
		binary.Any(b)
		if after := whole(b); !bytes.Equal(before, after) {
			t.Fatalf("the bytes %s became %s", short(before), short(after))
		}
	}
}

func TestCircuitsAreOnlyRead(t *testing.T) {
	latch, and := api.Latch{Next: 7, Reset: 8}, api.And{A: 7, B: 8}
	for c := range circuits() {
		c := api.Circuit{Inputs: c.Inputs, Latches: roomy(c.Latches, latch, latch), Ands: roomy(c.Ands, and, and), Bads: roomy(c.Bads, 7, 8), Constraints: roomy(c.Constraints, 9, 10)}
		before := api.Circuit{Inputs: c.Inputs, Latches: whole(c.Latches), Ands: whole(c.Ands), Bads: whole(c.Bads), Constraints: whole(c.Constraints)}
		writes(t, "with memory behind the lists", c, bytesIn(c, asWritten()))
		after := api.Circuit{Inputs: c.Inputs, Latches: whole(c.Latches), Ands: whole(c.Ands), Bads: whole(c.Bads), Constraints: whole(c.Constraints)}
		if !same(before, after) {
			t.Fatalf("the circuit %+v became %+v", before, after)
		}
	}
}

// What stands behind the length of bytes does not count: it ends no line, and no number.
func TestMemoryBehindBytesDoesNotMatter(t *testing.T) {
	for _, behind := range [][]byte{{10, 10, 10}, {1, 1, 1, 1}, []byte("c\n")} {
		for _, b := range [][]byte{exampleParts().bytes(), bytesIn(example(), asWritten()), []byte("aig 0 0 0 0 0\n")} {
			for end := range len(b) + 1 {
				readsAsWanted(t, "a part", roomy(b[:end], behind...))
				readsAsWanted(t, "a part, with the rest behind it", b[:end])
			}
		}
	}
}

// Each list of a result has memory of its own.
func TestResultsShareNoMemory(t *testing.T) {
	latch, and := api.Latch{Next: 77, Reset: 78}, api.And{A: 77, B: 78}
	for _, b := range [][]byte{exampleParts().bytes(), bytesIn(example(), style{asBad: true}), bytesIn(full(), style{}), bytesIn(longest(), style{asBad: true})} {
		given := bytes.Clone(b)
		want, _ := binary.Read(given)
		overwritten(given, 77)
		reads(t, "after the bytes were changed", b, want)
		for i := range 4 {
			c, _ := binary.Read(b)
			switch i {
			case 0:
				overwritten(c.Latches, latch)
				c.Latches = slices.Clone(want.Latches)
			case 1:
				overwritten(c.Ands, and)
				c.Ands = slices.Clone(want.Ands)
			case 2:
				overwritten(c.Bads, 77)
				c.Bads = slices.Clone(want.Bads)
			case 3:
				overwritten(c.Constraints, 77)
				c.Constraints = slices.Clone(want.Constraints)
			}
			if !same(c, want) {
				t.Errorf("after the list %d was changed, the others of %s are those of %+v", i, short(b), c)
			}
		}
	}
	for _, c := range []api.Circuit{{}, example(), full()} {
		kept, _ := binary.Write(c)
		other, _ := binary.Write(c)
		overwritten(other, 77)
		if want := bytesIn(c, asWritten()); !bytes.Equal(kept, want) {
			t.Errorf("after other bytes were changed, those of %+v are %s", c, short(kept))
		}
		writes(t, "after bytes were changed", c, bytesIn(c, asWritten()))
	}
}

func TestNilAndEmptyListsAreEqual(t *testing.T) {
	empty := api.Circuit{Latches: []api.Latch{}, Ands: []api.And{}, Bads: []int{}, Constraints: []int{}}
	writes(t, "empty lists", empty, []byte("aig 0 0 0 0 0 0 0\n"))
	writes(t, "no lists", api.Circuit{}, []byte("aig 0 0 0 0 0 0 0\n"))
	fails(t, "no bytes", nil, api.ErrForm)
	fails(t, "empty bytes", []byte{}, api.ErrForm)
}

// A call does not see what became of the results of another one.
func TestNothingIsKept(t *testing.T) {
	var group sync.WaitGroup
	for range 4 {
		for _, b := range samples() {
			group.Go(func() {
				want, wantError := wanted(b)
				for range 2 {
					c, e := binary.Read(b)
					if !same(c, want) || e != wantError {
						t.Errorf("Read of %s = %+v, %d; want %+v, %d", short(b), c, e, want, wantError)
					}
					if e == api.OK {
						writes(t, "what is read", c, bytesIn(c, asWritten()))
					}
					overwritten(c.Bads, 77)
					overwritten(c.Constraints, 77)
					binary.Any([]byte("aag 1 0 1 0 0 1\n2 3\n2\n"))
					binary.Read([]byte("aig 0 0 0 0 0 0 0 1\n"))
				}
			})
		}
	}
	group.Wait()
}

// With an error all fields are zero.
func TestZeroValuesBesideErrors(t *testing.T) {
	failed := 0
	for _, b := range samples() {
		if c, e := binary.Read(b); e != api.OK && !reflect.ValueOf(c).IsZero() {
			t.Errorf("Read of %s = %+v, %d", short(b), c, e)
		}
		c, e := binary.Any(b)
		if e != api.OK && !reflect.ValueOf(c).IsZero() {
			t.Errorf("Any of %s = %+v, %d", short(b), c, e)
		}
		if e != api.OK {
			failed++
		}
	}
	if failed < 100 {
		t.Errorf("only %d errors", failed)
	}
}

// Bytes that are changed in some places are read as by the reader of the tests, or fail as there.
func TestChangedBytes(t *testing.T) {
	rnd := rand.New(rand.NewSource(106))
	seen := map[api.Errno]int{}
	for range 80000 {
		b := changed(rnd, bytesIn(drawnCircuit(rnd, rnd.Intn(4)), drawnStyle(rnd)))
		seen[readsAsWanted(t, "changed bytes", b)]++
		if t.Failed() {
			return
		}
	}
	for _, e := range []api.Errno{api.OK, api.ErrForm, api.ErrRange, api.ErrKind, api.ErrMore, api.ErrBad, api.ErrNone} {
		if seen[e] < 10 {
			t.Errorf("the error %d came %d times", e, seen[e])
		}
	}
}

// Any bytes, and what circuits are written with.
func TestNothingPanics(t *testing.T) {
	rnd := rand.New(rand.NewSource(107))
	pieces := []string{"aig ", "aig", " ", "\n", "\n", "\n", "0", "0 ", "1", "2", "2 ", "3", "9", "10", "c", "c\n", "i0", "aig 1 1 0 0 0\n", "aig 2 1 1 0 0\n", "aig 2 0 1 1 1\n", "aig 3 1 0 0 2\n", "1000", "999999999", "\x00", "\x01", "\x02", "\x80", "\xff", "\r"}
	for range 40000 {
		var b []byte
		for range rnd.Intn(12) {
			b = append(b, pieces[rnd.Intn(len(pieces))]...)
		}
		readsAsWanted(t, "pieces", b)
		b = make([]byte, rnd.Intn(20))
		rnd.Read(b)
		readsAsWanted(t, "bytes", b)
		if t.Failed() {
			return
		}
	}
	for _, size := range []int{39999, 40000, 40001, 1 << 20} {
		for b := range 256 {
			readsAsWanted(t, "the same bytes", bytes.Repeat([]byte{byte(b)}, size))
		}
	}
	for _, list := range wrongCircuits() {
		for _, c := range list {
			binary.Write(c)
		}
	}
}

func FuzzBytes(f *testing.F) {
	for _, s := range []string{"", "aig 1 0 1", "aag 1 0 1 0 0 1\n2 3\n2\n", "aig 0 0 0 0 0 0 0 1\n", "aig 4 2 1 0 1 1 0\n8 1\n9\n\x04\x02"} {
		f.Add([]byte(s))
	}
	f.Add(exampleParts().bytes())
	f.Add(bytesIn(example(), style{asBad: true}))
	f.Fuzz(func(t *testing.T, b []byte) {
		readsAsWanted(t, "bytes", b)
		rereads(t, b)
	})
}
