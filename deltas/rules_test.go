package deltas_test

import (
	"bytes"
	"math"
	"math/rand"
	"slices"
	"sync"
	"testing"

	"spiritlevel/api"
	"spiritlevel/deltas"
)

// P1: R1 to R7. That errors come in order, and alone, is tested in wrong_test.go.

// roomy returns a copy of a list with used memory behind its length.
func roomy[T any](list []T, behind ...T) []T {
	return append(slices.Clone(list), behind...)[:len(list)]
}

// whole returns a copy of all the memory of a list.
func whole[T any](list []T) []T { return slices.Clone(list[:cap(list)]) }

// overwritten changes all the memory of a list.
func overwritten[T any](list []T, with T) {
	list = list[:cap(list)]
	for i := range list {
		list[i] = with
	}
}

// samples returns bytes of numbers and gates, right ones and wrong ones.
func samples() [][]byte {
	list := [][]byte{nil, {0}, {128}, {128, 0}, {255, 255, 255, 255, 255}, {128, 128, 128, 128, 8}, {1, 1, 2, 0, 1, 3}}
	for _, x := range written {
		list = append(list, x.b)
	}
	for _, x := range byHand {
		list = append(list, x.b)
	}
	return list
}

func TestArgumentsAreOnlyRead(t *testing.T) {
	for _, b := range samples() {
		b = roomy(b, 1, 2, 129, 130)
		before := whole(b)
		deltas.Read(b)
		for first := range 4 {
			for n := range 4 {
				deltas.Unpack(first, n, b)
			}
		}
		if after := whole(b); !bytes.Equal(before, after) {
			t.Fatalf("the bytes %v became %v", before, after)
		}
	}
	for first, l := range lists() {
		l = roomy(l, api.And{A: 7, B: 8}, api.And{A: 9, B: 1})
		before := whole(l)
		for _, v := range []int{first, 1, 1000, 0} {
			deltas.Pack(v, l)
		}
		if after := whole(l); !slices.Equal(before, after) {
			t.Fatalf("the gates %v became %v", before, after)
		}
	}
}

// What stands behind the length of a list does not count: bytes there do not end a number, and gates there have no bytes.
func TestMemoryBehindListsDoesNotMatter(t *testing.T) {
	for _, behind := range [][]byte{{0, 0, 0, 0}, {1, 1, 1, 1}, {128, 129, 255, 7}} {
		for _, b := range samples() {
			for end := range len(b) + 1 {
				part := roomy(b[:end], behind...)
				readsAsWanted(t, part)
				for n := range 4 {
					unpacksAsWanted(t, 4, n, part)
					unpacksAsWanted(t, 64, n, part)
				}
			}
		}
	}
	for first, l := range lists() {
		packs(t, first, roomy(l, api.And{A: 1, B: 0}, api.And{A: -1, B: -1}), wantedPacked(first, l))
	}
}

func TestResultsShareNoMemory(t *testing.T) {
	for _, x := range written {
		kept, _ := deltas.Write(x.n)
		other, _ := deltas.Write(x.n)
		overwritten(other, 77)
		if !bytes.Equal(kept, x.b) {
			t.Errorf("after other bytes were changed, %d has the bytes %v", x.n, kept)
		}
		writes(t, x.n, x.b)
	}
	for first, l := range lists() {
		given := slices.Clone(l)
		b := packed(t, first, given)
		other := packed(t, first, given)
		overwritten(given, api.And{A: 77, B: 78})
		overwritten(other, 77)
		want := wantedPacked(first, l)
		if !bytes.Equal(b, want) {
			t.Fatalf("after the gates %v were changed, their bytes are %v", l, b)
		}
		got, _, _ := deltas.Unpack(first, len(l), b)
		otherGates, _, _ := deltas.Unpack(first, len(l), b)
		overwritten(b, 77)
		overwritten(otherGates, api.And{A: 77, B: 78})
		if !slices.Equal(got, l) {
			t.Fatalf("after the bytes of %v were changed, the gates are %v", l, got)
		}
		unpacks(t, first, len(l), want, l, len(want))
	}
}

func TestNilAndEmptyListsAreEqual(t *testing.T) {
	for _, b := range [][]byte{nil, {}} {
		readFails(t, b, api.ErrNone)
		unpacks(t, 1, 0, b, nil, 0)
		unpackFails(t, 1, 1, b, api.ErrNone)
		unpackFails(t, 0, 0, b, api.ErrArg)
	}
	for _, l := range [][]api.And{nil, {}} {
		packs(t, 1, l, nil)
		packs(t, 1000, l, nil)
		packFails(t, 1001, l, api.ErrArg)
	}
}

func TestNothingPanics(t *testing.T) {
	rnd := rand.New(rand.NewSource(100))
	list := append([]int{-1, 0, 1, 2, 3, 4, 5, 127, 128, 999, 1000, 1001, 2000, 2001, lastNumber, lastNumber + 1}, farOff...)
	pick := func() int { return list[rnd.Intn(len(list))] }
	for range 50000 {
		b := make([]byte, rnd.Intn(12))
		for i := range b {
			b[i] = byte(rnd.Intn(256)) >> rnd.Intn(8) << rnd.Intn(8)
		}
		readsAsWanted(t, b)
		unpacksAsWanted(t, pick(), pick(), b)
		unpacksAsWanted(t, pick(), rnd.Intn(4), b)
		unpacksAsWanted(t, 1+rnd.Intn(lastVar), rnd.Intn(4), b)
		if n := pick(); n < 0 || n > lastNumber {
			writeFails(t, n, api.ErrArg)
		} else {
			writes(t, n, wantedBytes(n))
		}
		packsAsWanted(t, pick(), []api.And{{A: pick(), B: pick()}, {A: pick(), B: pick()}}[:rnd.Intn(3)])
	}
	for _, n := range []int{math.MinInt, math.MaxInt} {
		deltas.Write(n)
		deltas.Pack(n, []api.And{{A: n, B: n}})
		deltas.Pack(1, []api.And{{A: n, B: math.MinInt}})
		deltas.Unpack(n, n, nil)
		deltas.Unpack(1, n, []byte{1, 1})
	}
}

func packsAsWanted(t *testing.T, first int, l []api.And) {
	t.Helper()
	switch {
	case first < 1 || first > lastVar:
		packFails(t, first, l, api.ErrArg)
	case len(l) > 1001-first:
		packFails(t, first, l, api.ErrMany)
	case !areRight(first, l):
		packFails(t, first, l, api.ErrBad)
	default:
		packs(t, first, l, wantedPacked(first, l))
	}
}

// Calls at the same time, and one after the other, have results of their own.
func TestNothingIsKept(t *testing.T) {
	var group sync.WaitGroup
	for range 4 {
		for first, l := range lists() {
			group.Go(func() {
				want := wantedPacked(first, l)
				b, _ := deltas.Pack(first, l)
				deltas.Pack(first, []api.And{{A: -1, B: 0}})
				deltas.Unpack(1, 2, []byte{1, 1, 0})
				deltas.Read([]byte{128})
				got, size, _ := deltas.Unpack(first, len(l), want)
				again, _ := deltas.Pack(first, l)
				if !bytes.Equal(b, want) || !bytes.Equal(again, want) || !slices.Equal(got, l) || size != len(want) {
					t.Errorf("from %d on %v has the bytes %v, and again %v; they are those of %v", first, l, b, again, got)
				}
			})
		}
	}
	group.Wait()
}
