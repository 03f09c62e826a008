package frame_test

import (
	"bytes"
	"math/rand"
	"testing"

	"sounder/api"
	"sounder/frame"
)

// scan reads bytes by the definition; an error ends it as a panic.
type scan struct {
	b  []byte
	at int
}

func (s *scan) number() int {
	if s.at == len(s.b) {
		panic(api.ErrTrunc)
	}
	size := 1 << (s.b[s.at] >> 6)
	if len(s.b)-s.at < size {
		panic(api.ErrTrunc)
	}
	n := uint64(s.b[s.at] % 64)
	for _, x := range s.b[s.at+1 : s.at+size] {
		n = 256*n + uint64(x)
	}
	if n > most {
		panic(api.ErrRange)
	}
	s.at += size
	return int(n)
}

// notBelow reads a number and subtracts it and less from another one.
func (s *scan) notBelow(from, less int) int {
	n := from - s.number() - less
	if n < 0 {
		panic(api.ErrFrame)
	}
	return n
}

// byDefinition is what Next must return.
func byDefinition(b []byte) (a api.Ack, n int, e api.Errno) {
	defer func() {
		if fault := recover(); fault != nil {
			a, n, e = api.Ack{}, 0, fault.(api.Errno)
		}
	}()
	if len(b) == 0 {
		panic(api.ErrTrunc)
	}
	if b[0] != 2 && b[0] != 3 {
		panic(api.ErrFrame)
	}
	s := &scan{b, 1}
	greatest := s.number()
	a.Delay = s.number()
	count := s.number() + 1
	if count > 256 {
		panic(api.ErrLimit)
	}
	a.Ranges = append(a.Ranges, api.Range{Lo: s.notBelow(greatest, 0), Hi: greatest})
	for len(a.Ranges) < count {
		hi := s.notBelow(a.Ranges[len(a.Ranges)-1].Lo, 2)
		a.Ranges = append(a.Ranges, api.Range{Lo: s.notBelow(hi, 0), Hi: hi})
	}
	if b[0] == 3 {
		a.Marked = true
		for i := range a.Ecn {
			a.Ecn[i] = s.number()
		}
	}
	return a, s.at, api.OK
}

// agrees checks Next and Parse against the definition, and P5.5 for what can be read.
func agrees(t *testing.T, b []byte) {
	t.Helper()
	want, n, e := byDefinition(b)
	next(t, b, want, n, e)
	if e != api.OK {
		return
	}
	a, _ := frame.Parse(b[:n])
	if frame.Check(a) != api.OK {
		t.Errorf("of % x: what was parsed is not valid: %v", b, a)
	}
	short, e := frame.Bytes(a)
	if e != api.OK || len(short) > n {
		t.Errorf("of % x: encoded again as % x, error %d", b, short, e)
	}
	if again, e := frame.Parse(short); e != api.OK || !frame.Same(again, a) {
		t.Errorf("of % x: parsed again as %v, error %d, want %v", b, again, e, a)
	}
}

// P5.2, P5.5: all rows of few bytes.
func TestNextAllRows(t *testing.T) {
	alphabet := []byte{0, 1, 2, 3, 5, 0x40, 0xc0}
	var row func(b []byte, left int)
	row = func(b []byte, left int) {
		agrees(t, b)
		if left == 0 {
			return
		}
		for _, x := range alphabet {
			row(append(b, x), left-1)
		}
	}
	for _, first := range []byte{2, 3} {
		row([]byte{first}, 5)
		row([]byte{first, 9, 0, 1}, 4)
		row([]byte{first, 9, 0, 2}, 5)
		row([]byte{first, 7, 0, 1, 0}, 5)
	}
}

// someNumber is a number at the edges of the sizes, or a small one, or any.
func someNumber(r *rand.Rand, below int) int {
	n := 0
	switch r.Intn(4) {
	case 0:
		n = r.Intn(70)
	case 1:
		n = []int{63, 64, 16383, 16384, 1<<30 - 1, 1 << 30}[r.Intn(6)]
	case 2:
		n = 1<<r.Intn(53) - r.Intn(2)
	default:
		n = r.Intn(most + 1)
	}
	return min(n, below)
}

// someAck is a valid ACK.
func someAck(r *rand.Rand) api.Ack {
	a := api.Ack{Delay: someNumber(r, most), Marked: r.Intn(2) == 0}
	if a.Marked {
		a.Ecn = [3]int{someNumber(r, most), someNumber(r, most), someNumber(r, most)}
	}
	count := 1 + r.Intn([]int{1, 3, 20, 256}[r.Intn(4)])
	hi := max(someNumber(r, most), 1<<r.Intn(53))
	for hi >= 0 && len(a.Ranges) < count {
		lo := hi - someNumber(r, hi)
		if r.Intn(3) > 0 {
			lo = max(hi-r.Intn(5), 0)
		}
		a.Ranges = append(a.Ranges, api.Range{Lo: lo, Hi: hi})
		hi = lo - 2 - r.Intn(9)
	}
	return a
}

// someBytes is the encoding of an ACK, with numbers in encodings of some sizes.
func someBytes(r *rand.Rand, a api.Ack) []byte {
	var b []byte
	put := func(n int) {
		least := len(shortest(n))
		b = append(b, number(n, max(least, 1<<r.Intn(4)))...)
	}
	b = append(b, 2)
	if a.Marked {
		b[0] = 3
	}
	put(a.Ranges[0].Hi)
	put(a.Delay)
	put(len(a.Ranges) - 1)
	for i, one := range a.Ranges {
		if i > 0 {
			put(a.Ranges[i-1].Lo - one.Hi - 2)
		}
		put(one.Hi - one.Lo)
	}
	if a.Marked {
		put(a.Ecn[0])
		put(a.Ecn[1])
		put(a.Ecn[2])
	}
	return b
}

// P5.5: parsing an encoding returns the original ACK.
func TestRoundTrip(t *testing.T) {
	r := rand.New(rand.NewSource(5))
	acks := []api.Ack{}
	for _, a := range valids() {
		acks = append(acks, a)
	}
	for range 3000 {
		acks = append(acks, someAck(r))
	}
	for _, a := range acks {
		if e := frame.Check(a); e != api.OK {
			t.Fatalf("Check of %v: error %d", a, e)
		}
		b, e := frame.Bytes(a)
		if e != api.OK {
			t.Fatalf("Bytes of %v: error %d", a, e)
		}
		next(t, b, a, len(b), api.OK)
		agrees(t, b)
		long := someBytes(r, a)
		next(t, long, a, len(long), api.OK)
		agrees(t, long)
		if len(long) < len(b) {
			t.Errorf("of %v: % x is shorter than % x", a, long, b)
		}
	}
}

// P5.2, P5.5: encodings with some bytes changed.
func TestNextChanged(t *testing.T) {
	r := rand.New(rand.NewSource(55))
	for range 20000 {
		b := someBytes(r, someAck(r))
		b = b[:min(len(b), 60)]
		for range 1 + r.Intn(3) {
			b[r.Intn(len(b))] = byte(r.Intn(256))
		}
		agrees(t, b)
	}
}

// P5.6: bytes that are cut off cannot be parsed, wherever they are cut off.
func TestCutOff(t *testing.T) {
	r := rand.New(rand.NewSource(56))
	acks := []api.Ack{}
	for _, a := range valids() {
		acks = append(acks, a)
	}
	for range 100 {
		acks = append(acks, someAck(r))
	}
	for _, a := range acks {
		b, _ := frame.Bytes(a)
		for _, b := range [][]byte{b, someBytes(r, a)} {
			for end := range b {
				fails(t, bytes.Clone(b[:end]), api.ErrTrunc)
			}
		}
	}
}
