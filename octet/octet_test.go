package octet_test

import (
	"bytes"
	"encoding/hex"
	"math"
	"testing"

	"sounder/api"
	"sounder/octet"
)

const most = api.MaxNumber

// unhex is bytes that are written in hexadecimal.
func unhex(t *testing.T, text string) []byte {
	t.Helper()
	b, err := hex.DecodeString(text)
	if err != nil {
		t.Fatal(err)
	}
	return b
}

// noNumbers are ints that are no numbers, some of which 8 bytes would hold.
func noNumbers() []int {
	return []int{-1, -64, math.MinInt, most + 1, 1<<62 - 1, 1 << 62, math.MaxInt}
}

// P2.1: the greatest number of each size and the next one; what is none.
func TestSize(t *testing.T) {
	for _, c := range []struct{ n, size int }{
		{0, 1}, {1, 1}, {37, 1}, {63, 1},
		{64, 2}, {15293, 2}, {16383, 2},
		{16384, 4}, {494878333, 4}, {1<<30 - 1, 4},
		{1 << 30, 8}, {1 << 32, 8}, {1 << 40, 8}, {most - 1, 8}, {most, 8},
	} {
		if octet.Size(c.n) != c.size {
			t.Errorf("Size(%d): got %d, want %d", c.n, octet.Size(c.n), c.size)
		}
	}
	for _, n := range noNumbers() {
		if octet.Size(n) != 0 {
			t.Errorf("Size(%d): got %d, want 0", n, octet.Size(n))
		}
	}
}

// P2.1: the shortest encoding, at the edges of each size.
func TestPut(t *testing.T) {
	for _, c := range []struct {
		n    int
		want string
	}{
		{0, "00"}, {1, "01"}, {37, "25"}, {63, "3f"},
		{64, "4040"}, {15293, "7bbd"}, {16383, "7fff"},
		{16384, "80004000"}, {494878333, "9d7f3e7d"}, {1<<30 - 1, "bfffffff"},
		{1 << 30, "c000000040000000"}, {most, "c01fffffffffffff"},
		{0x0123456789abcd, "c00123456789abcd"},
	} {
		b, e := octet.Put(nil, c.n)
		if e != api.OK || hex.EncodeToString(b) != c.want {
			t.Errorf("Put(no bytes; %d): got %x, error %d, want %s", c.n, b, e, c.want)
		}
	}
}

// P2.1: what is no number is not written, by Put nor in any size.
func TestPutOfNoNumber(t *testing.T) {
	for _, n := range noNumbers() {
		for _, before := range [][]byte{nil, {}, {1, 2, 3}} {
			if b, e := octet.Put(before, n); e != api.ErrRange || len(b) != 0 {
				t.Errorf("Put(%x; %d): got %x, error %d", before, n, b, e)
			}
			for _, size := range []int{-1, 0, 1, 2, 3, 4, 8, 9} {
				if b, e := octet.PutIn(before, n, size); e != api.ErrRange || len(b) != 0 {
					t.Errorf("PutIn(%x; %d, %d): got %x, error %d", before, n, size, b, e)
				}
			}
		}
	}
}

// P2.1: each size that a number fits into.
func TestPutIn(t *testing.T) {
	for _, c := range []struct {
		n, size int
		want    string
	}{
		{0, 1, "00"}, {0, 2, "4000"}, {0, 4, "80000000"}, {0, 8, "c000000000000000"},
		{37, 1, "25"}, {37, 2, "4025"}, {37, 4, "80000025"}, {37, 8, "c000000000000025"},
		{63, 1, "3f"}, {64, 2, "4040"}, {16383, 2, "7fff"}, {16383, 4, "80003fff"},
		{16384, 4, "80004000"}, {1<<30 - 1, 4, "bfffffff"}, {1<<30 - 1, 8, "c00000003fffffff"},
		{1 << 30, 8, "c000000040000000"}, {most, 8, "c01fffffffffffff"},
	} {
		b, e := octet.PutIn(nil, c.n, c.size)
		if e != api.OK || hex.EncodeToString(b) != c.want {
			t.Errorf("PutIn(no bytes; %d, %d): got %x, error %d, want %s", c.n, c.size, b, e, c.want)
		}
	}
}

// P2.1: sizes that are none, and numbers that do not fit theirs.
func TestPutInOfWrongSize(t *testing.T) {
	type call struct{ n, size int }
	calls := []call{
		{64, 1}, {16383, 1}, {16384, 1}, {most, 1},
		{16384, 2}, {1 << 30, 2}, {most, 2},
		{1 << 30, 4}, {1 << 32, 4}, {most, 4},
	}
	for _, size := range []int{math.MinInt, -8, -2, -1, 0, 3, 5, 6, 7, 9, 16, 64, 256 + 8, 1<<32 + 1, math.MaxInt} {
		for _, n := range []int{0, 37, 64, 16384, most} {
			calls = append(calls, call{n, size})
		}
	}
	for _, c := range calls {
		for _, before := range [][]byte{nil, {1, 2, 3}} {
			if b, e := octet.PutIn(before, c.n, c.size); e != api.ErrArg || len(b) != 0 {
				t.Errorf("PutIn(%x; %d, %d): got %x, error %d", before, c.n, c.size, b, e)
			}
		}
	}
}

// P2.1, P2.5: b comes first; it and its spare capacity stay as they are, and
// neither results nor b and a result share memory.
func TestPutLeavesItsBytes(t *testing.T) {
	whole := bytes.Repeat([]byte{0xee}, 20)
	copy(whole, []byte{7, 8, 9})
	b := whole[:3]
	kept := bytes.Clone(whole)
	first, e1 := octet.Put(b, 37)
	second, e2 := octet.PutIn(b, 64, 8)
	third, e3 := octet.Put(b, 15293)
	if e1 != api.OK || e2 != api.OK || e3 != api.OK {
		t.Fatalf("errors %d, %d, %d", e1, e2, e3)
	}
	if !bytes.Equal(whole, kept) {
		t.Errorf("b or its capacity became %x", whole)
	}
	for i := range whole {
		whole[i] = 0x11
	}
	for _, c := range []struct {
		got  []byte
		want string
	}{{first, "07080925"}, {second, "070809c000000000000040"}, {third, "0708097bbd"}} {
		if hex.EncodeToString(c.got) != c.want {
			t.Errorf("got %x, want %s", c.got, c.want)
		}
		clear(c.got)
		clear(c.got[len(c.got):cap(c.got)])
	}
	if !bytes.Equal(whole, bytes.Repeat([]byte{0x11}, 20)) {
		t.Errorf("a result shares memory with b: %x", whole)
	}
}

// P2.2: numbers only, whole, and each in its shortest encoding.
func TestStrict(t *testing.T) {
	for _, c := range []struct {
		b    string
		want bool
	}{
		{"", true},
		{"00", true}, {"25", true}, {"3f", true}, {"257bbd", true},
		{"4040", true}, {"7fff", true}, {"80004000", true}, {"bfffffff", true},
		{"c000000040000000", true}, {"c01fffffffffffff", true},
		{"c01fffffffffffff259d7f3e7d7bbd00", true},
		// Longer than necessary, alone, before and after others.
		{"4025", false}, {"4000", false}, {"403f", false}, {"80003fff", false}, {"80000000", false},
		{"c00000003fffffff", false}, {"c000000000000000", false},
		{"254025", false}, {"402525", false}, {"7bbd403f00", false},
		// Cut off.
		{"40", false}, {"800040", false}, {"80", false}, {"c0000000400000", false}, {"c0", false}, {"257b", false},
		// No number.
		{"c020000000000000", false}, {"ffffffffffffffff", false}, {"25ffffffffffffffff", false},
	} {
		if got := octet.Strict(unhex(t, c.b)); got != c.want {
			t.Errorf("Strict(%s): got %v", c.b, got)
		}
	}
	if !octet.Strict(nil) {
		t.Error("Strict(nil): got false")
	}
}

// P2.2, P2.5: Strict only reads.
func TestStrictLeavesItsBytes(t *testing.T) {
	b := unhex(t, "257bbd9d7f3e7d4025")
	kept := bytes.Clone(b)
	octet.Strict(b[:7])
	octet.Strict(b)
	if !bytes.Equal(b, kept) {
		t.Errorf("became %x", b)
	}
}
