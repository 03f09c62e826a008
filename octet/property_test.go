package octet_test

import (
	"bytes"
	"encoding/binary"
	"math/rand"
	"slices"
	"testing"

	"sounder/api"
	"sounder/octet"
)

// samples are numbers in rising order, without repetition: all short ones, the
// edges of the sizes, and numbers of all lengths (the same at each run).
func samples() []int {
	l := []int{1<<30 - 1, 1 << 30, 1<<30 + 1, 1 << 32, 1 << 40, 1 << 52, most - 1, most}
	for n := range 16384 + 100 {
		l = append(l, n)
	}
	source := rand.New(rand.NewSource(2))
	for length := 15; length <= 53; length++ {
		l = append(l, 1<<length-1)
		for range 20 {
			l = append(l, source.Intn(1<<length))
		}
	}
	slices.Sort(l)
	return slices.Compact(l)
}

// fits are the sizes that a number fits into, with their two upper bits.
func fits(n int) map[int]uint64 {
	m := map[int]uint64{8: 3}
	if n < 1<<30 {
		m[4] = 2
	}
	if n < 1<<14 {
		m[2] = 1
	}
	if n < 1<<6 {
		m[1] = 0
	}
	return m
}

// reference is an encoding by the definition: bits, most significant first.
func reference(n, size int, upper uint64) []byte {
	var b [8]byte
	binary.BigEndian.PutUint64(b[:], uint64(n)|upper<<(8*size-2))
	return b[8-size:]
}

// P2.1: PutIn against the definition, and Put is the shortest of them.
func TestAgainstDefinition(t *testing.T) {
	for _, n := range samples() {
		least := 8
		for size, upper := range fits(n) {
			least = min(least, size)
			b, e := octet.PutIn(nil, n, size)
			if e != api.OK || !bytes.Equal(b, reference(n, size, upper)) {
				t.Fatalf("PutIn(no bytes; %d, %d): got %x, error %d", n, size, b, e)
			}
		}
		b, e := octet.Put(nil, n)
		if e != api.OK || len(b) != least || octet.Size(n) != least || !bytes.Equal(b, reference(n, least, fits(n)[least])) {
			t.Fatalf("Put(no bytes; %d): got %x, error %d, size %d, want size %d", n, b, e, octet.Size(n), least)
		}
	}
}

// P2.6: decoding returns what was encoded, whatever stands before and after.
func TestDecodingUndoesEncoding(t *testing.T) {
	before, after := []byte{0xff, 0x40, 0xc0}, []byte{0xff, 0xff, 0x80}
	for _, n := range samples() {
		for size := range fits(n) {
			b, e := octet.PutIn(before, n, size)
			if e != api.OK || !bytes.Equal(b[:len(before)], before) {
				t.Fatalf("PutIn(%x; %d, %d): got %x, error %d", before, n, size, b, e)
			}
			r := octet.NewReader(append(b, after...))
			first, got, rest := r.Take(len(before)), r.Num(), r.Take(len(after))
			if got != n || !bytes.Equal(first, before) || !bytes.Equal(rest, after) || r.End() != api.OK {
				t.Fatalf("%d in %d bytes: got %x, %d, %x, end %d", n, size, first, got, rest, r.End())
			}
		}
	}
}

// P2.6, P2.7: many numbers one after the other are Strict, and are read in order.
func TestManyNumbers(t *testing.T) {
	var b []byte
	l := samples()
	for i := 0; i < len(l); i += 7 {
		b, _ = octet.Put(b, l[i])
	}
	if !octet.Strict(b) {
		t.Error("results of Put are not strict")
	}
	r := octet.NewReader(b)
	for i := 0; i < len(l); i += 7 {
		if n := r.Num(); n != l[i] {
			t.Fatalf("number %d: got %d, want %d", i, n, l[i])
		}
	}
	if r.End() != api.OK {
		t.Errorf("end %d", r.End())
	}
}

// P2.7: shortest encodings are ordered like their numbers.
func TestOrder(t *testing.T) {
	var previous []byte
	for i, n := range samples() {
		b, _ := octet.Put(nil, n)
		if !octet.Strict(b) {
			t.Fatalf("Put(no bytes; %d): %x is not strict", n, b)
		}
		rises := len(b) > len(previous) || len(b) == len(previous) && bytes.Compare(b, previous) > 0
		if i > 0 && !rises {
			t.Fatalf("%d is encoded as %x, the number before it as %x", n, b, previous)
		}
		previous = b
	}
}

// P2.2, P2.7: an encoding is Strict just if it is the shortest one.
func TestStrictIsShortest(t *testing.T) {
	for _, n := range samples() {
		for size := range fits(n) {
			b, _ := octet.PutIn(nil, n, size)
			if octet.Strict(b) != (size == octet.Size(n)) {
				t.Fatalf("Strict(%x) of %d: got %v", b, n, octet.Strict(b))
			}
		}
	}
}

// P2.8: a number that is cut off, anywhere, alone and behind another one.
func TestCutOff(t *testing.T) {
	for _, n := range samples() {
		for size := range fits(n) {
			b, _ := octet.PutIn([]byte{0x25}, n, size)
			for left := range size {
				r := octet.NewReader(b[:1+left])
				if r.Num() != 37 || r.Num() != 0 || r.Err() != api.ErrTrunc || r.Left() != left {
					t.Fatalf("%x: error %d, %d left", b[:1+left], r.Err(), r.Left())
				}
				if left > 0 && octet.Strict(b[:1+left]) {
					t.Fatalf("%x is strict", b[:1+left])
				}
			}
		}
	}
}

// P2.3, P2.8: bytes of all kinds: a number is read just if its bytes are there
// and it is not too great; otherwise nothing is consumed.
func TestAnyBytes(t *testing.T) {
	source := rand.New(rand.NewSource(3))
	for range 20000 {
		b := make([]byte, source.Intn(10))
		source.Read(b)
		if len(b) > 1 && source.Intn(2) == 0 {
			b[0], b[1] = 0xc0, b[1]&0x3f
		}
		r := octet.NewReader(b)
		n, size, e := expected(b)
		if r.Num() != n || r.Err() != e || r.Left() != len(b)-size {
			t.Fatalf("%x: error %d, %d left, want %d, error %d, size %d", b, r.Err(), r.Left(), n, e, size)
		}
	}
}

// expected is what reading bytes gives, by the definition.
func expected(b []byte) (n, size int, e api.Errno) {
	if len(b) == 0 {
		return 0, 0, api.ErrTrunc
	}
	size = 1 << (b[0] >> 6)
	if len(b) < size {
		return 0, 0, api.ErrTrunc
	}
	var whole [8]byte
	copy(whole[8-size:], b[:size])
	bits := binary.BigEndian.Uint64(whole[:]) & (1<<(8*size-2) - 1)
	if bits > most {
		return 0, 0, api.ErrRange
	}
	return int(bits), size, api.OK
}
