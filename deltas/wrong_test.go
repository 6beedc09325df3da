package deltas_test

import (
	"math/rand"
	"testing"

	"spiritlevel/api"
)

// Which error comes first (R1). That results beside errors are zero values is tested with each of them.

// A number may be too great, or not end, but it cannot also have a last 0: five bytes with a last 0 are less than 2^28.
func TestReadErrorsInOrder(t *testing.T) {
	for _, x := range []struct {
		b []byte
		e api.Errno
	}{
		{nil, api.ErrNone},
		{[]byte{128}, api.ErrNone},
		{[]byte{128, 0}, api.ErrForm},
		{[]byte{128, 0, 128}, api.ErrForm},
		{[]byte{128, 128, 128, 128}, api.ErrNone},
		{[]byte{128, 128, 128, 128, 0}, api.ErrForm},
		{[]byte{255, 255, 255, 255, 0}, api.ErrForm},
		{[]byte{128, 128, 128, 128, 128}, api.ErrRange},
		{[]byte{128, 128, 128, 128, 128, 0}, api.ErrRange},
		{[]byte{128, 128, 128, 128, 128, 128}, api.ErrRange},
		{[]byte{128, 128, 128, 128, 8}, api.ErrRange},
		{[]byte{128, 128, 128, 128, 8, 0}, api.ErrRange},
	} {
		readFails(t, x.b, x.e)
	}
}

func TestPackErrorsInOrder(t *testing.T) {
	wrong := api.And{A: 2, B: 3}
	many := make([]api.And, 1001)
	wrongs := make([]api.And, 1001)
	for i := range wrongs {
		wrongs[i] = wrong
	}
	for _, first := range append([]int{0, -1, 1001, 1002}, farOff...) {
		packFails(t, first, []api.And{wrong}, api.ErrArg)
		packFails(t, first, many, api.ErrArg)
		packFails(t, first, wrongs, api.ErrArg)
	}
	packFails(t, 1, wrongs, api.ErrMany)
	packFails(t, 1000, wrongs[:2], api.ErrMany)
	packFails(t, 1000, wrongs[:1], api.ErrBad)
	packFails(t, 1, wrongs[:1000], api.ErrBad)
	// Wrong only behind the last variable.
	packFails(t, 999, []api.And{{A: 1, B: 0}, {A: 1, B: 0}, wrong}, api.ErrMany)
}

func TestUnpackErrorsInOrder(t *testing.T) {
	// The bytes of right gates, and each number's error.
	for _, b := range [][]byte{nil, {1, 1}, {0, 0}, {128}, {128, 0}, {255, 255, 255, 255, 255}} {
		for _, first := range append([]int{0, -1, 1001, 1002}, farOff...) {
			for _, n := range append([]int{-1, 0, 1, 2, 1000, 1001}, farOff...) {
				unpackFails(t, first, n, b, api.ErrArg)
			}
		}
		for _, first := range []int{1, 2, 999, 1000} {
			unpackFails(t, first, -1, b, api.ErrArg)
			unpackFails(t, first, -1000, b, api.ErrArg)
			unpackFails(t, first, 1002-first, b, api.ErrMany)
			unpackFails(t, first, 1003-first, b, api.ErrMany)
		}
	}
}

// notNumbers are bytes, and Read's error of them.
var notNumbers = []struct {
	b []byte
	e api.Errno
}{
	{nil, api.ErrNone},
	{[]byte{128}, api.ErrNone},
	{[]byte{255, 255, 255, 255}, api.ErrNone},
	{[]byte{255, 255, 255, 255, 255}, api.ErrRange},
	{[]byte{128, 128, 128, 128, 8}, api.ErrRange},
	{[]byte{129, 0}, api.ErrForm},
	{[]byte{128, 128, 128, 128, 0}, api.ErrForm},
}

// A wrong first number is told before the second one is read, and Read's error of a number before what it would make wrong.
func TestUnpackTellsTheFirstNumber(t *testing.T) {
	for _, v := range []int{1, 2, 4, 63, 64, 65, 999, 1000} {
		own := 2 * v
		for _, x := range notNumbers {
			unpackFails(t, v, 1, x.b, x.e)
			for _, more := range []int{0, own + 1, own + 2, own + 128, 2*own + 1, 1 << 20, lastNumber} {
				unpackFails(t, v, 1, joined(wantedBytes(more), x.b), api.ErrBad)
			}
			for _, more := range []int{1, 2, own - 1, own} {
				unpackFails(t, v, 1, joined(wantedBytes(more), x.b), x.e)
			}
		}
		for _, more := range []int{1, 2, own - 1, own} {
			a := own - more
			unpacks(t, v, 1, joined(wantedBytes(more), wantedBytes(a)), []api.And{{A: a, B: 0}}, len(wantedBytes(more))+len(wantedBytes(a)))
			for _, less := range []int{a + 1, a + 2, a + 128, lastNumber} {
				unpackFails(t, v, 1, joined(wantedBytes(more), wantedBytes(less)), api.ErrBad)
			}
		}
	}
}

// What is wrong in a gate is told, whatever stands behind it, and nothing of what is behind the gates that are asked for.
func TestUnpackTellsTheFirstGate(t *testing.T) {
	const first, n = 60, 6
	rnd := rand.New(rand.NewSource(99))
	tails := [][]byte{nil, {0, 0}, {255, 255, 255, 255, 255}, {128, 0}, {1, 1, 1, 1, 1, 1, 1, 1, 1, 1, 1, 1}}
	for at := range n {
		l := drawnGates(rnd, first, at)
		before := wantedPacked(first, l)
		for _, tail := range tails {
			own := 2 * (first + at)
			for _, bad := range [][]byte{{0}, {0, 0}, wantedBytes(own + 1), {1, 255, 127}, joined(wantedBytes(own), []byte{1}), joined([]byte{1}, wantedBytes(own))} {
				b := joined(before, bad, tail)
				unpackFails(t, first, n, b, api.ErrBad)
				unpacks(t, first, at, b, l, len(before))
			}
			for _, x := range notNumbers {
				if x.e == api.ErrNone {
					continue
				}
				b := joined(before, x.b, tail)
				unpackFails(t, first, n, b, x.e)
				unpacks(t, first, at, b, l, len(before))
				unpackFails(t, first, n, joined(before, []byte{1}, x.b, tail), x.e)
			}
		}
	}
}
