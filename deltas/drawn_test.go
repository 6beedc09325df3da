package deltas_test

import (
	"bytes"
	"encoding/binary"
	"iter"
	"math"
	"math/rand"
	"slices"
	"testing"

	"spiritlevel/api"
	"spiritlevel/deltas"
)

// What the tests have in common: numbers, bytes and gates, and what the chapter says of them, told in another way than in the package.

// Written as numbers: the limits must not move with the constants of the program.
const (
	lastNumber = 2147483647
	lastVar    = 1000
)

// farOff are numbers that are far away from all limits, or wrap around.
var farOff = []int{math.MinInt, math.MinInt + 1, math.MinInt / 2, math.MinInt32 - 1, math.MinInt32, -1 << 20, 1 << 31, 1<<31 + 1, 1 << 32, 1<<32 + 5, 1 << 35, math.MaxInt / 2, math.MaxInt - 1, math.MaxInt}

// wantedBytes are the bytes of a number, by Go's own library.
func wantedBytes(n int) []byte { return binary.AppendUvarint(nil, uint64(n)) }

// wantedNumber is what Read should return.
func wantedNumber(b []byte) (n, size int, e api.Errno) {
	high := 0
	for high < len(b) && b[high] >= 128 {
		high++
	}
	if high >= 5 {
		return 0, 0, api.ErrRange
	}
	if high == len(b) {
		return 0, 0, api.ErrNone
	}
	value, size := binary.Uvarint(b)
	switch {
	case size != high+1:
		panic("the library has another size")
	case value > lastNumber:
		return 0, 0, api.ErrRange
	case high > 0 && b[high] == 0:
		return 0, 0, api.ErrForm
	}
	return int(value), size, api.OK
}

// isRight tells whether a gate of a variable is right.
func isRight(v int, g api.And) bool { return g.A >= g.B && g.B >= 0 && g.A < 2*v }

// areRight tells whether gates from a variable on are right.
func areRight(first int, l []api.And) bool {
	for i, g := range l {
		if !isRight(first+i, g) {
			return false
		}
	}
	return true
}

// wantedPacked are the bytes of right gates.
func wantedPacked(first int, l []api.And) []byte {
	var b []byte
	for i, g := range l {
		b = append(b, wantedBytes(2*(first+i)-g.A)...)
		b = append(b, wantedBytes(g.A-g.B)...)
	}
	return b
}

// wantedGates is what Unpack should return.
func wantedGates(first, n int, b []byte) ([]api.And, int, api.Errno) {
	switch {
	case first < 1 || first > lastVar || n < 0:
		return nil, 0, api.ErrArg
	case n > 1001-first:
		return nil, 0, api.ErrMany
	}
	var l []api.And
	rest := b
	for v := first; v < first+n; v++ {
		more, size, e := wantedNumber(rest)
		if e != api.OK {
			return nil, 0, e
		}
		rest = rest[size:]
		// If no gate with this A is right, that with B 0 is not.
		if !isRight(v, api.And{A: 2*v - more}) {
			return nil, 0, api.ErrBad
		}
		less, size, e := wantedNumber(rest)
		if e != api.OK {
			return nil, 0, e
		}
		rest = rest[size:]
		g := api.And{A: 2*v - more, B: 2*v - more - less}
		if !isRight(v, g) {
			return nil, 0, api.ErrBad
		}
		l = append(l, g)
	}
	return l, len(b) - len(rest), api.OK
}

// numbers yields numbers from 0 to 2^31 - 1: the first ones, those next to each power of 2, and any.
func numbers() iter.Seq[int] {
	return func(yield func(int) bool) {
		for n := range 70000 {
			if !yield(n) {
				return
			}
		}
		for i := range 32 {
			for d := -300; d <= 300; d++ {
				if n := 1<<i + d; n >= 0 && n <= lastNumber && !yield(n) {
					return
				}
			}
		}
		rnd := rand.New(rand.NewSource(91))
		for range 100000 {
			if !yield(rnd.Intn(1<<31) >> rnd.Intn(31)) {
				return
			}
		}
	}
}

// byteStrings yields all byte strings over an alphabet that have at most as many bytes; each one is memory of its own.
func byteStrings(alphabet []byte, most int) iter.Seq[[]byte] {
	return func(yield func([]byte) bool) {
		places := make([]int, most)
		for size := range most + 1 {
			clear(places)
			for more := true; more; more = nextPlaces(places[:size], len(alphabet)) {
				b := make([]byte, size)
				for i, p := range places[:size] {
					b[i] = alphabet[p]
				}
				if !yield(b) {
					return
				}
			}
		}
	}
}

// nextPlaces counts on, and tells whether there is a next one.
func nextPlaces(places []int, base int) bool {
	for i := range places {
		places[i]++
		if places[i] < base {
			return true
		}
		places[i] = 0
	}
	return false
}

// drawnGates returns n right gates from a variable on, some of them with the least and the greatest parts.
func drawnGates(rnd *rand.Rand, first, n int) []api.And {
	var l []api.And
	for v := first; v < first+n; v++ {
		a := []int{0, 2*v - 1, rnd.Intn(2 * v), rnd.Intn(2 * v)}[rnd.Intn(4)]
		b := []int{0, a, rnd.Intn(a + 1), rnd.Intn(a + 1)}[rnd.Intn(4)]
		l = append(l, api.And{A: a, B: b})
	}
	return l
}

// lists yields right gates, and the variables from which on they are right.
func lists() iter.Seq2[int, []api.And] {
	return func(yield func(int, []api.And) bool) {
		rnd := rand.New(rand.NewSource(92))
		for round := range 600 {
			first := 1 + rnd.Intn(lastVar)>>rnd.Intn(10)
			room := min(1001-first, 1+round/10)
			if !yield(first, drawnGates(rnd, first, rnd.Intn(room+1))) {
				return
			}
		}
		for _, first := range []int{1, 2, 63, 64, 65, 500, 999, 1000} {
			if !yield(first, nil) || !yield(first, drawnGates(rnd, first, 1001-first)) {
				return
			}
		}
	}
}

// The following hold what the package says against what is wanted.

func writes(t *testing.T, n int, want []byte) {
	t.Helper()
	if b, e := deltas.Write(n); !bytes.Equal(b, want) || e != api.OK {
		t.Fatalf("Write(%d) = %v, %d; want %v", n, b, e, want)
	}
}

func reads(t *testing.T, b []byte, n, size int) {
	t.Helper()
	if m, s, e := deltas.Read(b); m != n || s != size || e != api.OK {
		t.Fatalf("Read(%v) = %d, %d, %d; want %d, %d", b, m, s, e, n, size)
	}
}

func packs(t *testing.T, first int, l []api.And, want []byte) {
	t.Helper()
	if b, e := deltas.Pack(first, l); !bytes.Equal(b, want) || e != api.OK {
		t.Fatalf("Pack(%d, %v) = %v, %d; want %v", first, l, b, e, want)
	}
}

func unpacks(t *testing.T, first, n int, b []byte, want []api.And, size int) {
	t.Helper()
	if l, s, e := deltas.Unpack(first, n, b); !slices.Equal(l, want) || s != size || e != api.OK {
		t.Fatalf("Unpack(%d, %d, %v) = %v, %d, %d; want %v, %d", first, n, b, l, s, e, want, size)
	}
}

func writeFails(t *testing.T, n int, want api.Errno) {
	t.Helper()
	if b, e := deltas.Write(n); len(b) != 0 || e != want {
		t.Fatalf("Write(%d) = %v, %d; want the error %d", n, b, e, want)
	}
}

func readFails(t *testing.T, b []byte, want api.Errno) {
	t.Helper()
	if n, size, e := deltas.Read(b); n != 0 || size != 0 || e != want {
		t.Fatalf("Read(%v) = %d, %d, %d; want the error %d", b, n, size, e, want)
	}
}

func packFails(t *testing.T, first int, l []api.And, want api.Errno) {
	t.Helper()
	if b, e := deltas.Pack(first, l); len(b) != 0 || e != want {
		t.Fatalf("Pack(%d, %v) = %v, %d; want the error %d", first, l, b, e, want)
	}
}

func unpackFails(t *testing.T, first, n int, b []byte, want api.Errno) {
	t.Helper()
	if l, size, e := deltas.Unpack(first, n, b); len(l) != 0 || size != 0 || e != want {
		t.Fatalf("Unpack(%d, %d, %v) = %v, %d, %d; want the error %d", first, n, b, l, size, e, want)
	}
}

// readsAsWanted and unpacksAsWanted tell also whether there was a result.

func readsAsWanted(t *testing.T, b []byte) bool {
	t.Helper()
	n, size, e := wantedNumber(b)
	if e != api.OK {
		readFails(t, b, e)
		return false
	}
	reads(t, b, n, size)
	return true
}

func unpacksAsWanted(t *testing.T, first, n int, b []byte) bool {
	t.Helper()
	l, size, e := wantedGates(first, n, b)
	if e != api.OK {
		unpackFails(t, first, n, b, e)
		return false
	}
	unpacks(t, first, n, b, l, size)
	return true
}

// packed returns the bytes of gates that are right.
func packed(t *testing.T, first int, l []api.And) []byte {
	t.Helper()
	b, e := deltas.Pack(first, l)
	if e != api.OK {
		t.Fatalf("Pack(%d, %v): error %d", first, l, e)
	}
	return b
}

// joined returns one byte string of many, in memory of its own.
func joined(parts ...[]byte) []byte { return slices.Concat(parts...) }
