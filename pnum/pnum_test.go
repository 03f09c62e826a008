package pnum_test

import (
	"bytes"
	"encoding/hex"
	"math"
	"testing"

	"sounder/api"
	"sounder/pnum"
)

const most = api.MaxNumber

// noNumbers are ints that are neither numbers nor -1.
func noNumbers() []int {
	return []int{-2, -3, -256, math.MinInt, math.MinInt + 1, most + 1, most + 2, 1 << 62, math.MaxInt}
}

// noLengths are ints that no number can be truncated to.
func noLengths() []int {
	return []int{math.MinInt, -4, -1, 0, 5, 6, 8, 256 + 1, 1<<32 + 1, math.MaxInt}
}

// unhex is bytes that are written in hexadecimal.
func unhex(t *testing.T, text string) []byte {
	t.Helper()
	b, err := hex.DecodeString(text)
	if err != nil {
		t.Fatal(err)
	}
	return b
}

// P3.1: the greatest distance of each length and the next one, from several acknowledged numbers.
func TestLen(t *testing.T) {
	for _, acked := range []int{-1, 0, 1, 127, 255, 0xabe8b3, 1 << 32, most - 1<<31 - 1} {
		for _, c := range []struct {
			distance, n int
			e           api.Errno
		}{
			{1, 1, api.OK}, {2, 1, api.OK}, {127, 1, api.OK}, {128, 1, api.OK},
			{129, 2, api.OK}, {255, 2, api.OK}, {256, 2, api.OK}, {1<<15 - 1, 2, api.OK}, {1 << 15, 2, api.OK},
			{1<<15 + 1, 3, api.OK}, {1 << 16, 3, api.OK}, {1<<23 - 1, 3, api.OK}, {1 << 23, 3, api.OK},
			{1<<23 + 1, 4, api.OK}, {1 << 24, 4, api.OK}, {1<<31 - 1, 4, api.OK}, {1 << 31, 4, api.OK},
			{1<<31 + 1, 0, api.ErrLimit},
		} {
			if n, e := pnum.Len(acked+c.distance, acked); n != c.n || e != c.e {
				t.Errorf("Len(%d, %d): got %d, error %d, want %d, error %d", acked+c.distance, acked, n, e, c.n, c.e)
			}
		}
	}
}

// P3.1: the chapter's examples, and the ends of the numbers.
func TestLenExamples(t *testing.T) {
	for _, c := range []struct {
		full, acked, n int
		e              api.Errno
	}{
		{0xac5c02, 0xabe8b3, 2, api.OK}, {0xace8fe, 0xabe8b3, 3, api.OK}, {0, -1, 1, api.OK},
		{5, 5, 0, api.ErrRange}, {0x80000001, 0, 0, api.ErrLimit}, {0x80000000, 0, 4, api.OK},
		{127, -1, 1, api.OK}, {128, -1, 2, api.OK}, {1<<31 - 1, -1, 4, api.OK}, {1 << 31, -1, 0, api.ErrLimit},
		{most, most - 1, 1, api.OK}, {most, most - 128, 1, api.OK}, {most, most - 129, 2, api.OK},
		{1 << 32, 0, 0, api.ErrLimit}, {1<<32 + 1, 0, 0, api.ErrLimit}, {most, 0, 0, api.ErrLimit}, {most, -1, 0, api.ErrLimit},
	} {
		if n, e := pnum.Len(c.full, c.acked); n != c.n || e != c.e {
			t.Errorf("Len(%x, %x): got %d, error %d, want %d, error %d", c.full, c.acked, n, e, c.n, c.e)
		}
	}
}

// P3.1: what is no number, what is no greatest number, and numbers that are not above the acknowledged one.
func TestLenOutOfRange(t *testing.T) {
	type call struct{ full, acked int }
	calls := []call{
		{-1, -1}, {-1, -2}, {-1, 0}, {-1, 5}, {-1, math.MinInt},
		{0, 0}, {0, 1}, {5, 6}, {5, most}, {most, most}, {most - 1, most}, {0, most},
	}
	for _, wrong := range noNumbers() {
		for _, other := range []int{-1, 0, 5, most - 1, most} {
			calls = append(calls, call{wrong, other}, call{other, wrong})
		}
		calls = append(calls, call{wrong, wrong}, call{wrong, wrong - 1})
	}
	for _, c := range calls {
		if n, e := pnum.Len(c.full, c.acked); n != 0 || e != api.ErrRange {
			t.Errorf("Len(%d, %d): got %d, error %d", c.full, c.acked, n, e)
		}
	}
}

// P3.2: the last bytes, in order, with zeros in front of small numbers.
func TestCut(t *testing.T) {
	for _, c := range []struct {
		full, n int
		want    string
	}{
		{0xac5c02, 2, "5c02"}, {0xace8fe, 3, "ace8fe"},
		{0, 1, "00"}, {0, 2, "0000"}, {0, 3, "000000"}, {0, 4, "00000000"},
		{1, 1, "01"}, {1, 2, "0001"}, {1, 3, "000001"}, {1, 4, "00000001"},
		{255, 1, "ff"}, {256, 1, "00"}, {256, 2, "0100"}, {65536, 2, "0000"}, {65536, 3, "010000"},
		{0x12345678, 1, "78"}, {0x12345678, 2, "5678"}, {0x12345678, 3, "345678"}, {0x12345678, 4, "12345678"},
		{0x1f23456789abcd, 1, "cd"}, {0x1f23456789abcd, 2, "abcd"}, {0x1f23456789abcd, 3, "89abcd"}, {0x1f23456789abcd, 4, "6789abcd"},
		{1 << 32, 4, "00000000"}, {1 << 52, 4, "00000000"}, {most - 1, 1, "fe"}, {most, 1, "ff"}, {most, 4, "ffffffff"},
	} {
		b, e := pnum.Cut(c.full, c.n)
		if e != api.OK || hex.EncodeToString(b) != c.want {
			t.Errorf("Cut(%x, %d): got %x, error %d, want %s", c.full, c.n, b, e, c.want)
		}
	}
}

// P3.2: numbers that are none come before lengths that are none.
func TestCutErrors(t *testing.T) {
	for _, full := range append(noNumbers(), -1) {
		for _, n := range append(noLengths(), 1, 2, 3, 4) {
			if b, e := pnum.Cut(full, n); len(b) != 0 || e != api.ErrRange {
				t.Errorf("Cut(%d, %d): got %x, error %d", full, n, b, e)
			}
		}
	}
	for _, full := range []int{0, 1, 0xac5c02, most} {
		for _, n := range noLengths() {
			if b, e := pnum.Cut(full, n); len(b) != 0 || e != api.ErrArg {
				t.Errorf("Cut(%d, %d): got %x, error %d", full, n, b, e)
			}
		}
	}
}

// P3.3: ordinary reconstructions, two that are equally close, and both ends of the numbers.
func TestWhole(t *testing.T) {
	for _, c := range []struct {
		greatest int
		b        string
		want     int
	}{
		{0xa82f30ea, "9b32", 0xa82f9b32}, {-1, "00", 0}, {-1, "ff", 0xff},
		{0x80, "00", 0x100}, {0x7f, "00", 0x100}, {0x1ff, "80", 0x280},
		{0xabe8b3, "5c02", 0xac5c02}, {0xabe8b3, "ace8fe", 0xace8fe},
		// The next number itself, and its neighbours.
		{0xff, "00", 0x100}, {0xff, "ff", 0xff}, {0xff, "01", 0x101}, {0xfe, "ff", 0xff}, {0x12344, "2345", 0x12345},
		// Equally close, then one step to either side of that.
		{0x17f, "00", 0x200}, {0x17e, "00", 0x100}, {0x180, "00", 0x200},
		{0x1fe, "80", 0x180}, {0x200, "80", 0x280},
		{0x17fff, "0000", 0x20000}, {0x17ffe, "0000", 0x10000}, {0x18000, "0000", 0x20000},
		{0x17fffff, "000000", 0x2000000}, {0x17ffffe, "000000", 0x1000000},
		{0x17fffffff, "00000000", 0x200000000}, {0x17ffffffe, "00000000", 0x100000000},
		// It would be negative.
		{-1, "0000", 0}, {-1, "ffff", 0xffff}, {-1, "ffffff", 0xffffff}, {-1, "ffffffff", 0xffffffff}, {-1, "80", 0x80}, {-1, "81", 0x81},
		{0, "ff", 0xff}, {1, "fe", 0xfe}, {0x7e, "ff", 0xff}, {0, "ffffffff", 0xffffffff}, {0x7e, "00", 0}, {0x7d, "00", 0},
		// It would be greater than all numbers.
		{most, "00", most - 0xff}, {most, "01", most - 0xfe}, {most, "7f", most - 0x80}, {most, "80", most - 0x7f}, {most, "ff", most},
		{most - 1, "00", most - 0xff}, {most - 1, "ff", most}, {most - 5, "10", most - 0xef},
		{most, "0000", most - 0xffff}, {most, "000000", most - 0xffffff}, {most, "00000000", most - 0xffffffff},
		{most, "7fffffff", most - 1<<31}, {most, "80000000", most - 1<<31 + 1}, {most, "ffffffff", most},
		{most - 0x100, "00", most - 0xff}, {most - 0x100, "ff", most - 0x100},
	} {
		n, e := pnum.Whole(c.greatest, unhex(t, c.b))
		if e != api.OK || n != c.want {
			t.Errorf("Whole(%x, %s): got %x, error %d, want %x", c.greatest, c.b, n, e, c.want)
		}
	}
}

// P3.3: greatest numbers that are none come before bytes that are too few or too many.
func TestWholeErrors(t *testing.T) {
	good := [][]byte{{0}, {1, 2}, {1, 2, 3}, {255, 255, 255, 255}}
	bad := [][]byte{nil, {}, {0, 0, 0, 0, 0}, {1, 2, 3, 4, 5}, make([]byte, 8), make([]byte, 257), make([]byte, 0, 4)}
	for _, greatest := range noNumbers() {
		for _, b := range append(good, bad...) {
			if n, e := pnum.Whole(greatest, b); n != 0 || e != api.ErrRange {
				t.Errorf("Whole(%d, %x): got %d, error %d", greatest, b, n, e)
			}
		}
	}
	for _, greatest := range []int{-1, 0, 1, 0xa82f30ea, most} {
		for _, b := range bad {
			if n, e := pnum.Whole(greatest, b); n != 0 || e != api.ErrArg {
				t.Errorf("Whole(%d, %x): got %d, error %d", greatest, b, n, e)
			}
		}
	}
}

// P3.4: Whole only reads its bytes, and not what lies behind them.
func TestWholeLeavesItsBytes(t *testing.T) {
	memory := []byte{0x9b, 0x32, 0xee, 0xee, 0xee, 0xee}
	kept := bytes.Clone(memory)
	for _, b := range [][]byte{memory[:2], memory[:2:2]} {
		if n, e := pnum.Whole(0xa82f30ea, b); n != 0xa82f9b32 || e != api.OK {
			t.Errorf("Whole(a82f30ea, %x): got %x, error %d", b, n, e)
		}
	}
	pnum.Whole(most, memory[:4])
	pnum.Whole(-2, memory)
	pnum.Whole(0, memory)
	if !bytes.Equal(memory, kept) {
		t.Errorf("the bytes became %x", memory)
	}
}

// P3.4: each result of Cut is its own memory, and none has room for more.
func TestCutIsNewMemory(t *testing.T) {
	const full = 0x12345678
	for n := 1; n <= 4; n++ {
		first, _ := pnum.Cut(full, n)
		second, _ := pnum.Cut(full, n)
		want := bytes.Clone(second)
		if cap(first) != n {
			t.Errorf("Cut(%x, %d) has a capacity of %d", full, n, cap(first))
		}
		clear(first)
		clear(first[:cap(first)])
		third, _ := pnum.Cut(full, n)
		if !bytes.Equal(second, want) || !bytes.Equal(third, want) {
			t.Errorf("Cut(%x, %d): results share memory: %x, %x", full, n, second, third)
		}
	}
}
