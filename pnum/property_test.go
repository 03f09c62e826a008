package pnum_test

import (
	"encoding/binary"
	"math/rand"
	"slices"
	"testing"

	"sounder/api"
	"sounder/pnum"
)

// half is how far a number of n bytes may be away.
func half(n int) int { return 1 << (8*n - 1) }

// samples are numbers in rising order, without repetition: small ones, the
// neighbours of powers of two, the last ones, and numbers of all lengths (the
// same at each run).
func samples() []int {
	var l []int
	for n := range 600 {
		l = append(l, n, most-n)
	}
	source := rand.New(rand.NewSource(3))
	for length := 9; length <= 53; length++ {
		l = append(l, 1<<length-1, 1<<length-2)
		if length < 53 {
			l = append(l, 1<<length, 1<<length+1)
		}
		for range 20 {
			l = append(l, source.Intn(1<<length))
		}
	}
	slices.Sort(l)
	return slices.Compact(l)
}

// bytesOf are the last n bytes of a value.
func bytesOf(value, n int) []byte {
	var b [8]byte
	binary.BigEndian.PutUint64(b[:], uint64(value))
	return b[8-n:]
}

// cuts are values whose last bytes are told from a greatest number: near it, as
// far away as they can be, the least and the greatest ones, and others.
func cuts(source *rand.Rand, greatest, n int) []int {
	l := []int{0, 1, half(n) - 1, half(n), half(n) + 1, 2*half(n) - 1, source.Intn(1 << 53), source.Intn(1 << 53)}
	for d := -2; d <= 2; d++ {
		l = append(l, greatest+1+d, greatest+1+half(n)+d)
	}
	return l
}

// reconstruction is by the definition: the closest one of the numbers that end
// with the bytes of value; those of the blocks around next are enough.
func reconstruction(next, value, n int) int {
	step := 2 * half(n)
	best, away := -1, 0
	for block := next/step - 3; block <= next/step+3; block++ {
		one := block*step + value&(step-1)
		if one < 0 || one > most {
			continue
		}
		distance := max(one-next, next-one)
		if best < 0 || distance <= away {
			best, away = one, distance
		}
	}
	return best
}

// P3.3: Whole against the definition.
func TestWholeAgainstDefinition(t *testing.T) {
	source := rand.New(rand.NewSource(4))
	for _, greatest := range append([]int{-1}, samples()...) {
		for n := 1; n <= 4; n++ {
			for _, value := range cuts(source, greatest, n) {
				b := bytesOf(value, n)
				got, e := pnum.Whole(greatest, b)
				if want := reconstruction(greatest+1, value, n); got != want || e != api.OK {
					t.Fatalf("Whole(%x, %x): got %x, error %d, want %x", greatest, b, got, e, want)
				}
			}
		}
	}
}

// P3.3: all single bytes, with all numbers that end with them among the first
// ones and the last ones.
func TestWholeOfOneByte(t *testing.T) {
	const room = 1024
	for _, base := range []int{0, most + 1 - room} {
		for at := -1; at < room; at++ {
			greatest := base + at
			if base > 0 && at < room/2 || base == 0 && at >= room/2 {
				continue
			}
			for value := range 256 {
				want := -1
				for one := base + value; one < base+room; one += 256 {
					if want < 0 || max(one-greatest-1, greatest+1-one) <= max(want-greatest-1, greatest+1-want) {
						want = one
					}
				}
				if got, e := pnum.Whole(greatest, []byte{byte(value)}); got != want || e != api.OK {
					t.Fatalf("Whole(%x, %02x): got %x, error %d, want %x", greatest, value, got, e, want)
				}
			}
		}
	}
}

// P3.2: Cut against the definition.
func TestCutAgainstDefinition(t *testing.T) {
	for _, full := range samples() {
		for n := 1; n <= 4; n++ {
			b, e := pnum.Cut(full, n)
			if e != api.OK || !slices.Equal(b, bytesOf(full, n)) {
				t.Fatalf("Cut(%x, %d): got %x, error %d", full, n, b, e)
			}
		}
	}
}

// distances are how far a number may be above the acknowledged one, up to the
// greatest distance of 4 bytes.
func distances(source *rand.Rand) []int {
	l := []int{1, 2, 3}
	for n := 1; n <= 4; n++ {
		l = append(l, half(n)-1, half(n), 1+source.Intn(half(n)))
		if n < 4 {
			l = append(l, half(n)+1, 2*half(n))
		}
	}
	return l
}

// P3.1, P3.5: the required length is the least one that the distance permits,
// and with it a number is found again from every greatest number between the
// acknowledged one and the one before it, and from those above it that are near enough.
func TestFoundAgain(t *testing.T) {
	source := rand.New(rand.NewSource(5))
	for _, full := range samples() {
		for _, distance := range distances(source) {
			acked := full - distance
			if acked < -1 {
				continue
			}
			n, e := pnum.Len(full, acked)
			if e != api.OK || n < 1 || n > 4 || distance > half(n) || n > 1 && distance <= half(n-1) {
				t.Fatalf("Len(%x, %x): got %d, error %d", full, acked, n, e)
			}
			b, _ := pnum.Cut(full, n)
			for _, greatest := range sights(source, full, acked, n) {
				if got, e := pnum.Whole(greatest, b); got != full || e != api.OK {
					t.Fatalf("Whole(%x, %x): got %x, error %d, want %x (acknowledged: %x)", greatest, b, got, e, full, acked)
				}
			}
		}
	}
}

// sights are greatest numbers from which P3.5 promises that full is found
// again: both ends of what it promises, and some in between.
func sights(source *rand.Rand, full, acked, n int) []int {
	last := min(full+half(n)-2, most)
	l := []int{acked, full - 1, last}
	for _, d := range []int{0, 1, 2, half(n)/2 - 1} {
		l = append(l, min(full+d, last))
	}
	for range 4 {
		l = append(l, acked+source.Intn(last-acked+1))
	}
	return l
}

// P3.5: every greatest number from the acknowledged one on, for one byte.
func TestFoundAgainFromAll(t *testing.T) {
	for _, full := range []int{0, 1, 100, 127, 128, 255, 256, 1000, most - 300, most - 1, most} {
		b, _ := pnum.Cut(full, 1)
		for greatest := max(full-128, -1); greatest <= min(full+126, most); greatest++ {
			if got, e := pnum.Whole(greatest, b); got != full || e != api.OK {
				t.Fatalf("Whole(%x, %x): got %x, error %d, want %x", greatest, b, got, e, full)
			}
		}
	}
}

// P3.6: a reconstruction ends with the bytes, and is near, unless the one on
// the other side would be negative or not a number.
func TestReconstructionIsNear(t *testing.T) {
	source := rand.New(rand.NewSource(6))
	for _, greatest := range append([]int{-1}, samples()...) {
		for n := 1; n <= 4; n++ {
			for _, value := range cuts(source, greatest, n) {
				b := bytesOf(value, n)
				got, e := pnum.Whole(greatest, b)
				if e != api.OK || got < 0 || got > most || !slices.Equal(bytesOf(got, n), b) {
					t.Fatalf("Whole(%x, %x): got %x, error %d", greatest, b, got, e)
				}
				tooHigh := got-greatest-1 > half(n) && got-2*half(n) >= 0
				tooLow := greatest+1-got > half(n) && got+2*half(n) <= most
				if tooHigh || tooLow {
					t.Fatalf("Whole(%x, %x): got %x, which is too far away", greatest, b, got)
				}
			}
		}
	}
}
