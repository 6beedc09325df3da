package deltas_test

import (
	"bytes"
	"math/rand"
	"slices"
	"testing"

	"spiritlevel/api"
	"spiritlevel/deltas"
)

// byHand are right gates and their bytes, worked out by hand.
var byHand = []struct {
	first int
	l     []api.And
	b     []byte
}{
	{4, []api.And{{A: 4, B: 2}}, []byte{4, 2}},
	{4, []api.And{{A: 4, B: 2}, {A: 8, B: 7}}, []byte{4, 2, 2, 1}},
	{1, nil, nil},
	{500, nil, nil},
	{1000, nil, nil},
	{1, []api.And{{A: 0, B: 0}}, []byte{2, 0}},
	{1, []api.And{{A: 1, B: 0}}, []byte{1, 1}},
	{1, []api.And{{A: 1, B: 1}}, []byte{1, 0}},
	{64, []api.And{{A: 1, B: 0}}, []byte{127, 1}},
	{64, []api.And{{A: 0, B: 0}}, []byte{128, 1, 0}},
	{65, []api.And{{A: 129, B: 2}}, []byte{1, 127}},
	{65, []api.And{{A: 129, B: 1}}, []byte{1, 128, 1}},
	{1000, []api.And{{A: 1999, B: 0}}, []byte{1, 207, 15}},
	{1000, []api.And{{A: 1000, B: 700}}, []byte{232, 7, 172, 2}},
	{1000, []api.And{{A: 0, B: 0}}, []byte{208, 15, 0}},
	{1000, []api.And{{A: 1999, B: 1999}}, []byte{1, 0}},
	{999, []api.And{{A: 1997, B: 1996}, {A: 1998, B: 1870}}, []byte{1, 1, 2, 128, 1}},
	{1, []api.And{{A: 1, B: 0}, {A: 3, B: 2}, {A: 2, B: 2}}, []byte{1, 1, 1, 1, 4, 0}},
}

// P9.3

func TestPackExamples(t *testing.T) {
	for _, x := range byHand {
		packs(t, x.first, x.l, x.b)
	}
}

func TestPackOfMany(t *testing.T) {
	for first, l := range lists() {
		packs(t, first, l, wantedPacked(first, l))
	}
}

// All pairs of numbers about the literals of some variables: those that are gates, and those that are not.
func TestPackOfAllPairs(t *testing.T) {
	for _, v := range []int{1, 2, 3, 4, 5, 63, 64, 65, 66} {
		for a := -3; a <= 2*v+3; a++ {
			for b := -3; b <= 2*v+3; b++ {
				g := api.And{A: a, B: b}
				if isRight(v, g) {
					packs(t, v, []api.And{g}, wantedPacked(v, []api.And{g}))
				} else {
					packFails(t, v, []api.And{g}, api.ErrBad)
				}
			}
		}
	}
}

// Each gate is held against the literal of its own variable.
func TestPackOfWrongGatesAtEachPlace(t *testing.T) {
	const first, n = 7, 6
	rnd := rand.New(rand.NewSource(95))
	for i := range n {
		own := 2 * (first + i)
		for _, g := range []api.And{{A: own, B: 0}, {A: own, B: own}, {A: own + 1, B: 0}, {A: own + 2, B: 2}, {A: 2, B: 3}, {A: 0, B: 1}, {A: own - 1, B: own}, {A: 4, B: -1}, {A: -1, B: -1}, {A: 0, B: -2}} {
			l := drawnGates(rnd, first, n)
			l[i] = g
			packFails(t, first, l, api.ErrBad)
			for _, x := range farOff {
				l[i] = api.And{A: x, B: 0}
				packFails(t, first, l, api.ErrBad)
				l[i] = api.And{A: 1, B: x}
				packFails(t, first, l, api.ErrBad)
				l[i] = api.And{A: x, B: x}
				packFails(t, first, l, api.ErrBad)
			}
		}
		l := drawnGates(rnd, first, n)
		l[i] = api.And{A: own - 1, B: own - 1}
		packs(t, first, l, wantedPacked(first, l))
	}
}

func TestPackFromEachVariable(t *testing.T) {
	l := []api.And{{A: 1, B: 0}}
	for v := -5; v <= 1005; v++ {
		if v < 1 || v > lastVar {
			packFails(t, v, l, api.ErrArg)
			packFails(t, v, nil, api.ErrArg)
			continue
		}
		packs(t, v, l, wantedPacked(v, l))
		packs(t, v, nil, nil)
	}
	for _, v := range farOff {
		packFails(t, v, l, api.ErrArg)
		packFails(t, v, nil, api.ErrArg)
	}
}

// As many gates as there are variables, and one more.
func TestPackUpToTheLastVariable(t *testing.T) {
	for _, first := range []int{1, 2, 500, 998, 999, 1000} {
		l := slices.Repeat([]api.And{{A: 1, B: 0}}, 1001-first)
		packs(t, first, l, wantedPacked(first, l))
		packFails(t, first, append(l, api.And{A: 1, B: 0}), api.ErrMany)
		packFails(t, first, slices.Repeat(l, 50), api.ErrMany)
	}
}

// P9.4

func TestUnpackExamples(t *testing.T) {
	for _, x := range byHand {
		unpacks(t, x.first, len(x.l), x.b, x.l, len(x.b))
		unpacks(t, x.first, len(x.l), joined(x.b, []byte{0, 255, 1}), x.l, len(x.b))
	}
	unpackFails(t, 4, 1, []byte{0, 2}, api.ErrBad)
}

// All byte strings of the bytes with which something changes, from the first variables on.
func TestUnpackOfAllBytes(t *testing.T) {
	for first := 1; first <= 3; first++ {
		for n := range 4 {
			right := 0
			for b := range byteStrings([]byte{0, 1, 2, 3, 4, 5, 6, 7, 128, 130}, 5) {
				if unpacksAsWanted(t, first, n, b) {
					right++
				}
			}
			// A number has at least a byte, so three gates are not in five.
			if (right == 0) != (n == 3) {
				t.Errorf("%d byte strings are those of %d gates from %d on", right, n, first)
			}
		}
	}
	// Numbers of two bytes, and their gates.
	for _, first := range []int{64, 65, 999, 1000} {
		for b := range byteStrings([]byte{0, 1, 2, 15, 16, 127, 128, 207, 208, 255}, 5) {
			unpacksAsWanted(t, first, 1, b)
			unpacksAsWanted(t, first, 2, b)
		}
	}
}

// All pairs of numbers about the literal of a variable.
func TestUnpackOfAllPairs(t *testing.T) {
	for _, v := range []int{1, 2, 3, 63, 64, 65, 66} {
		for more := range 2*v + 4 {
			for less := range 2*v + 4 {
				b := joined(wantedBytes(more), wantedBytes(less))
				g := api.And{A: 2*v - more, B: 2*v - more - less}
				if isRight(v, g) {
					unpacks(t, v, 1, b, []api.And{g}, len(b))
				} else {
					unpackFails(t, v, 1, b, api.ErrBad)
				}
			}
		}
	}
}

func TestUnpackFromEachVariable(t *testing.T) {
	for v := -5; v <= 1005; v++ {
		if v < 1 || v > lastVar {
			unpackFails(t, v, 1, []byte{1, 1}, api.ErrArg)
			unpackFails(t, v, 0, nil, api.ErrArg)
			continue
		}
		unpacks(t, v, 1, []byte{1, 1}, []api.And{{A: 2*v - 1, B: 2*v - 2}}, 2)
		unpacks(t, v, 0, nil, nil, 0)
		unpackFails(t, v, -1, []byte{1, 1}, api.ErrArg)
	}
	for _, v := range farOff {
		unpackFails(t, v, 1, []byte{1, 1}, api.ErrArg)
		unpackFails(t, v, 0, nil, api.ErrArg)
	}
}

// As many gates as there are variables, and one more.
func TestUnpackUpToTheLastVariable(t *testing.T) {
	b := bytes.Repeat([]byte{1, 0}, 2000)
	for _, first := range []int{1, 2, 500, 998, 999, 1000} {
		n := 1001 - first
		var l []api.And
		for v := first; v <= lastVar; v++ {
			l = append(l, api.And{A: 2*v - 1, B: 2*v - 1})
		}
		unpacks(t, first, n, b, l, 2*n)
		unpacks(t, first, n, b[:2*n], l, 2*n)
		unpackFails(t, first, n+1, b, api.ErrMany)
		unpackFails(t, first, n+1000, b, api.ErrMany)
		for _, many := range farOff {
			if many > 0 {
				unpackFails(t, first, many, b, api.ErrMany)
			} else {
				unpackFails(t, first, many, b, api.ErrArg)
			}
		}
	}
}

func TestUnpackOfNoGates(t *testing.T) {
	for _, first := range []int{1, 4, 999, 1000} {
		for _, b := range [][]byte{nil, {}, {0}, {128}, {255, 255, 255, 255, 255}, {1, 1}} {
			unpacks(t, first, 0, b, nil, 0)
		}
	}
}

// Bytes that end within a gate, at each place.
func TestUnpackOfBytesThatEnd(t *testing.T) {
	for _, x := range byHand {
		for end := range len(x.b) {
			unpackFails(t, x.first, len(x.l), x.b[:end], api.ErrNone)
		}
		if x.first+len(x.l) <= lastVar {
			unpackFails(t, x.first, len(x.l)+1, x.b, api.ErrNone)
		}
	}
	rnd := rand.New(rand.NewSource(96))
	for _, first := range []int{1, 60, 300, 980} {
		l := drawnGates(rnd, first, 20)
		b := wantedPacked(first, l)
		for end := range len(b) {
			unpackFails(t, first, len(l), b[:end], api.ErrNone)
		}
	}
}

// P9.5

func TestWhatIsPackedIsUnpacked(t *testing.T) {
	rnd := rand.New(rand.NewSource(97))
	for first, l := range lists() {
		b := packed(t, first, l)
		unpacks(t, first, len(l), b, l, len(b))
		tail := []byte{byte(rnd.Intn(256)), byte(rnd.Intn(256)), byte(rnd.Intn(256))}
		unpacks(t, first, len(l), joined(b, tail), l, len(b))
	}
}

// What is unpacked has just the bytes that it is unpacked from.
func TestWhatIsUnpackedIsPacked(t *testing.T) {
	for _, first := range []int{1, 2, 3, 64, 1000} {
		for n := range 3 {
			for b := range byteStrings([]byte{0, 1, 2, 4, 127, 128, 208}, 5) {
				l, size, e := deltas.Unpack(first, n, b)
				if e != api.OK {
					continue
				}
				if len(l) != n || !areRight(first, l) {
					t.Fatalf("Unpack(%d, %d, %v) = %v", first, n, b, l)
				}
				packs(t, first, l, b[:size])
			}
		}
	}
}

// Each part of gates is unpacked from its own variable on, and has its own part of the bytes.
func TestPartsAreUnpacked(t *testing.T) {
	rnd := rand.New(rand.NewSource(98))
	for first, l := range lists() {
		b := packed(t, first, l)
		for range 4 {
			from := rnd.Intn(len(l) + 1)
			to := from + rnd.Intn(len(l)-from+1)
			if first+from > lastVar {
				continue
			}
			before, part := packed(t, first, l[:from]), packed(t, first+from, l[from:to])
			if !bytes.HasPrefix(b, joined(before, part)) {
				t.Fatalf("from %d on %v has the bytes %v, and not those of the part from %d to %d in their place", first, l, b, from, to)
			}
			unpacks(t, first, from, b, l[:from], len(before))
			unpacks(t, first+from, to-from, b[len(before):], l[from:to], len(part))
		}
	}
}

// Different gates have different bytes, and none are the beginning of others.
func TestDifferentGatesHaveDifferentBytes(t *testing.T) {
	for _, v := range []int{1, 2, 3, 4, 64, 65} {
		seen := map[string]api.And{}
		for a := range 2 * v {
			for b := range a + 1 {
				g := api.And{A: a, B: b}
				p := packed(t, v, []api.And{g})
				for end := range len(p) + 1 {
					if other, ok := seen[string(p[:end])]; ok {
						t.Fatalf("from %d on %v has the bytes %v, with which those of %v begin", v, other, p[:end], g)
					}
				}
				seen[string(p)] = g
			}
		}
		if len(seen) != v*(2*v+1) {
			t.Errorf("%d gates of the variable %d", len(seen), v)
		}
	}
}

func FuzzUnpack(f *testing.F) {
	for _, x := range byHand {
		f.Add(x.first, len(x.l), x.b)
	}
	f.Fuzz(func(t *testing.T, first, n int, b []byte) {
		if unpacksAsWanted(t, first, n, b) {
			l, size, _ := deltas.Unpack(first, n, b)
			packs(t, first, l, b[:size])
		}
	})
}
