package deltas_test

import (
	"bytes"
	"math/rand"
	"slices"
	"testing"

	"spiritlevel/api"
	"spiritlevel/deltas"
)

// written are numbers and their bytes, worked out by hand.
var written = []struct {
	n int
	b []byte
}{
	{0, []byte{0}}, {1, []byte{1}}, {5, []byte{5}}, {126, []byte{126}}, {127, []byte{127}},
	{128, []byte{128, 1}}, {129, []byte{129, 1}}, {255, []byte{255, 1}}, {256, []byte{128, 2}}, {300, []byte{172, 2}}, {16383, []byte{255, 127}},
	{16384, []byte{128, 128, 1}}, {16385, []byte{129, 128, 1}}, {32767, []byte{255, 255, 1}}, {2097151, []byte{255, 255, 127}},
	{2097152, []byte{128, 128, 128, 1}}, {2097279, []byte{255, 128, 128, 1}}, {268435455, []byte{255, 255, 255, 127}},
	{268435456, []byte{128, 128, 128, 128, 1}}, {1 << 30, []byte{128, 128, 128, 128, 4}}, {2147483520, []byte{128, 255, 255, 255, 7}}, {2147483646, []byte{254, 255, 255, 255, 7}}, {lastNumber, []byte{255, 255, 255, 255, 7}},
}

// P9.1

func TestWriteExamples(t *testing.T) {
	for _, x := range written {
		writes(t, x.n, x.b)
	}
}

func TestWriteOfMany(t *testing.T) {
	for n := range numbers() {
		writes(t, n, wantedBytes(n))
	}
}

// The bytes are what the chapter defines: digits to the base 128, and none is 0 at the end.
func TestBytesAreDigits(t *testing.T) {
	for n := range numbers() {
		b, e := deltas.Write(n)
		if e != api.OK || len(b) < 1 || len(b) > 5 {
			t.Fatalf("Write(%d) = %v, %d", n, b, e)
		}
		rest := n
		for i, x := range b {
			digit := int(x)
			if i < len(b)-1 {
				digit -= 128
			}
			if digit < 0 || digit > 127 || digit != rest%128 {
				t.Fatalf("Write(%d) = %v: the byte %d is wrong", n, b, i)
			}
			rest /= 128
		}
		if rest != 0 || len(b) > 1 && b[len(b)-1] == 0 {
			t.Fatalf("Write(%d) = %v", n, b)
		}
	}
}

func TestWriteOfWhatHasNoBytes(t *testing.T) {
	for _, n := range append([]int{-1, -2, -127, -128, -129, lastNumber + 1, lastNumber + 2}, farOff...) {
		writeFails(t, n, api.ErrArg)
	}
}

// P9.2

func TestReadExamples(t *testing.T) {
	for _, x := range written {
		reads(t, x.b, x.n, len(x.b))
	}
}

func TestReadWithBytesBehind(t *testing.T) {
	for _, x := range written {
		for tail := range byteStrings([]byte{0, 1, 127, 128, 255}, 3) {
			reads(t, joined(x.b, tail), x.n, len(x.b))
		}
	}
}

func TestReadOfBytesThatDoNotEnd(t *testing.T) {
	for b := range byteStrings([]byte{128, 129, 200, 255}, 4) {
		readFails(t, b, api.ErrNone)
	}
	readFails(t, nil, api.ErrNone)
}

func TestReadOfFiveThatAreGreat(t *testing.T) {
	for head := range byteStrings([]byte{128, 255}, 5) {
		if len(head) < 5 {
			continue
		}
		// What stands behind them does not matter, nor whether the number ends there.
		for _, tail := range [][]byte{nil, {0}, {1}, {7}, {127}, {128}, {255}, {128, 0}, {255, 255, 255, 255, 255}} {
			readFails(t, joined(head, tail), api.ErrRange)
		}
	}
}

func TestReadOfWhatIsTooMuch(t *testing.T) {
	reads(t, []byte{255, 255, 255, 255, 7}, lastNumber, 5)
	for fifth := 8; fifth < 128; fifth++ {
		for head := range byteStrings([]byte{128, 129, 255}, 4) {
			if len(head) == 4 {
				readFails(t, append(head, byte(fifth)), api.ErrRange)
			}
		}
	}
	readFails(t, []byte{128, 128, 128, 128, 8}, api.ErrRange)    // 2^31
	readFails(t, []byte{128, 128, 128, 128, 16}, api.ErrRange)   // 2^32, of which 32 bits are 0
	readFails(t, []byte{133, 128, 128, 128, 64}, api.ErrRange)   // 2^34 + 5
	readFails(t, []byte{255, 255, 255, 255, 127}, api.ErrRange)  // 2^35 - 1
	readFails(t, []byte{128, 128, 128, 128, 8, 0}, api.ErrRange) // with another number behind it
	readFails(t, []byte{128, 128, 128, 128, 127, 1}, api.ErrRange)
}

func TestReadOfLastZeros(t *testing.T) {
	reads(t, []byte{0}, 0, 1)
	reads(t, []byte{0, 0}, 0, 1)
	reads(t, []byte{0, 128}, 0, 1)
	for head := range byteStrings([]byte{128, 129, 255}, 4) {
		for _, tail := range [][]byte{nil, {0}, {1}, {128}} {
			if b := joined(head, []byte{0}, tail); len(head) > 0 {
				readFails(t, b, api.ErrForm)
			}
		}
	}
	// A 0 that is no last byte stands for 128.
	reads(t, []byte{128, 128, 1}, 16384, 3)
}

// All byte strings of one and two bytes, and those of the bytes with which something changes.
func TestReadOfAllBytes(t *testing.T) {
	var every []byte
	for x := range 256 {
		every = append(every, byte(x))
	}
	for b := range byteStrings(every, 2) {
		readsAsWanted(t, b)
	}
	right := 0
	for b := range byteStrings([]byte{0, 1, 7, 8, 127, 128, 129, 135, 136, 255}, 6) {
		if readsAsWanted(t, b) {
			right++
		}
	}
	if right == 0 {
		t.Error("no bytes are those of a number")
	}
}

func TestReadOfFifthBytes(t *testing.T) {
	for fifth := range 256 {
		for head := range byteStrings([]byte{128, 129, 192, 255}, 4) {
			readsAsWanted(t, append(head, byte(fifth)))
		}
	}
}

// P9.5

// Any number is read as it, whatever stands behind it.
func TestWhatIsWrittenIsRead(t *testing.T) {
	rnd := rand.New(rand.NewSource(93))
	for n := range numbers() {
		b, e := deltas.Write(n)
		if e != api.OK {
			t.Fatalf("Write(%d): error %d", n, e)
		}
		reads(t, b, n, len(b))
		tail := make([]byte, 1+rnd.Intn(6))
		for i := range tail {
			tail[i] = byte(rnd.Intn(256))
		}
		reads(t, joined(b, tail), n, len(b))
		for part := range len(b) {
			readFails(t, b[:part], api.ErrNone)
		}
	}
}

// What is read has just these bytes, so a number has no other ones.
func TestWhatIsReadHasJustTheseBytes(t *testing.T) {
	for b := range byteStrings([]byte{0, 1, 7, 8, 127, 128, 129, 255}, 6) {
		n, size, e := deltas.Read(b)
		if e != api.OK {
			continue
		}
		if size < 1 || size > min(len(b), 5) {
			t.Fatalf("Read(%v) = %d, of %d bytes", b, n, size)
		}
		writes(t, n, b[:size])
	}
}

// A number with more bytes is greater, and just the powers of 128 have one more than the number before them.
func TestGreaterNumbersHaveNotFewerBytes(t *testing.T) {
	size := func(n int) int {
		b, _ := deltas.Write(n)
		return len(b)
	}
	list := slices.Sorted(numbers())
	for i, n := range list[1:] {
		if size(list[i]) > size(n) {
			t.Fatalf("%d has %d bytes, %d has %d", list[i], size(list[i]), n, size(n))
		}
	}
	want := 1
	for power := 128; power < lastNumber; power *= 128 {
		if size(power-1) != want || size(power) != want+1 {
			t.Errorf("%d has %d bytes, the number before it %d", power, size(power), size(power-1))
		}
		want++
	}
	if size(lastNumber) != 5 || want != 5 {
		t.Errorf("the greatest number has %d bytes", size(lastNumber))
	}
}

// Numbers one after the other are read one after the other.
func TestNumbersInARow(t *testing.T) {
	rnd := rand.New(rand.NewSource(94))
	for range 2000 {
		var all []byte
		var list []int
		for range rnd.Intn(20) {
			n := rnd.Intn(1<<31) >> rnd.Intn(31)
			b, _ := deltas.Write(n)
			list, all = append(list, n), append(all, b...)
		}
		rest := bytes.Clone(all)
		for _, n := range list {
			m, size, e := deltas.Read(rest)
			if m != n || e != api.OK {
				t.Fatalf("of %v, with the bytes %v, %d, %d is read instead of %d", list, all, m, e, n)
			}
			rest = rest[size:]
		}
		readFails(t, rest, api.ErrNone)
	}
}

func FuzzRead(f *testing.F) {
	for _, x := range written {
		f.Add(x.b)
	}
	f.Fuzz(func(t *testing.T, b []byte) {
		if readsAsWanted(t, b) {
			n, size, _ := deltas.Read(b)
			writes(t, n, b[:size])
		}
	})
}
