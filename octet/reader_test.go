package octet_test

import (
	"bytes"
	"math"
	"testing"

	"sounder/api"
	"sounder/octet"
)

// stands checks a reader's remaining bytes, its error, and what End says.
func stands(t *testing.T, name string, r *octet.Reader, left int, err, end api.Errno) {
	t.Helper()
	if r.Left() != left || r.Err() != err || r.End() != end {
		t.Errorf("%s: %d left, error %d, end %d, want %d, %d, %d", name, r.Left(), r.Err(), r.End(), left, err, end)
	}
}

// P2.3, P2.4: a nil and a zero reader have nothing, and stay so.
func TestNoReader(t *testing.T) {
	for name, r := range map[string]*octet.Reader{"nil": nil, "zero": {}} {
		stands(t, name, r, 0, api.ErrNil, api.ErrNil)
		for _, n := range []int{-1, 0, 1, math.MaxInt} {
			if r.Num() != 0 || len(r.Take(n)) != 0 {
				t.Errorf("%s: something was read", name)
			}
			stands(t, name, r, 0, api.ErrNil, api.ErrNil)
		}
	}
}

// P2.3, P2.4: a reader of no bytes is a reader.
func TestReaderOfNothing(t *testing.T) {
	for name, b := range map[string][]byte{"nil": nil, "empty": {}} {
		r := octet.NewReader(b)
		stands(t, name, r, 0, api.OK, api.OK)
		if len(r.Take(0)) != 0 {
			t.Errorf("%s: Take(0) has bytes", name)
		}
		stands(t, name, r, 0, api.OK, api.OK)
		if r.Num() != 0 {
			t.Errorf("%s: there is a number", name)
		}
		stands(t, name, r, 0, api.ErrTrunc, api.ErrTrunc)
	}
}

// P2.3: numbers in encodings of any length.
func TestNum(t *testing.T) {
	for _, c := range []struct {
		b    string
		want int
	}{
		{"00", 0}, {"25", 37}, {"3f", 63},
		{"4000", 0}, {"4025", 37}, {"4040", 64}, {"7bbd", 15293}, {"7fff", 16383},
		{"80000000", 0}, {"80000025", 37}, {"9d7f3e7d", 494878333}, {"bfffffff", 1<<30 - 1},
		{"c000000000000000", 0}, {"c000000000000025", 37}, {"c000000040000000", 1 << 30},
		{"c00123456789abcd", 0x0123456789abcd}, {"c01fffffffffffff", most},
	} {
		b := unhex(t, c.b)
		r := octet.NewReader(b)
		stands(t, c.b, r, len(b), api.OK, api.ErrForm)
		if n := r.Num(); n != c.want {
			t.Errorf("Num of %s: got %d, want %d", c.b, n, c.want)
		}
		stands(t, c.b, r, 0, api.OK, api.OK)
	}
}

// P2.3: bytes that are cut off, and numbers that are too great: nothing is
// consumed, and the error stays whatever is read next.
func TestNumErrors(t *testing.T) {
	for _, c := range []struct {
		b    string
		want api.Errno
	}{
		{"", api.ErrTrunc},
		{"40", api.ErrTrunc}, {"7f", api.ErrTrunc},
		{"80", api.ErrTrunc}, {"8000", api.ErrTrunc}, {"bfffff", api.ErrTrunc},
		{"c0", api.ErrTrunc}, {"c0000000000000", api.ErrTrunc}, {"ffffffffffffff", api.ErrTrunc},
		{"c020000000000000", api.ErrRange}, {"c02000000000000001", api.ErrRange},
		{"c2197c5eff14e88c", api.ErrRange}, {"e000000000000000", api.ErrRange},
		{"ffffffffffffffff", api.ErrRange}, {"ffffffffffffffff25", api.ErrRange},
	} {
		b := unhex(t, c.b)
		r := octet.NewReader(b)
		for range 3 {
			if n := r.Num(); n != 0 {
				t.Errorf("Num of %s: got %d", c.b, n)
			}
			stands(t, c.b, r, len(b), c.want, c.want)
			for _, n := range []int{-1, 0, 1, len(b), len(b) + 1} {
				if len(r.Take(n)) != 0 {
					t.Errorf("Take(%d) of %s after an error: there are bytes", n, c.b)
				}
				stands(t, c.b, r, len(b), c.want, c.want)
			}
		}
	}
}

// P2.3: so many bytes, up to all of them.
func TestTake(t *testing.T) {
	r := octet.NewReader(unhex(t, "010203ff40"))
	for _, c := range []struct {
		n    int
		want []byte
		left int
		end  api.Errno
	}{
		{0, nil, 5, api.ErrForm},
		{1, []byte{1}, 4, api.ErrForm},
		{3, []byte{2, 3, 0xff}, 1, api.ErrForm},
		{1, []byte{0x40}, 0, api.OK},
		{0, nil, 0, api.OK},
	} {
		if b := r.Take(c.n); !bytes.Equal(b, c.want) {
			t.Errorf("Take(%d): got %x, want %x", c.n, b, c.want)
		}
		stands(t, "Take", r, c.left, api.OK, c.end)
	}
}

// P2.3: counts that are negative or too great; the first error stays.
func TestTakeErrors(t *testing.T) {
	for _, c := range []struct {
		n    int
		want api.Errno
	}{
		{-1, api.ErrArg}, {-3, api.ErrArg}, {math.MinInt, api.ErrArg},
		{4, api.ErrTrunc}, {1 << 32, api.ErrTrunc}, {math.MaxInt, api.ErrTrunc},
	} {
		r := octet.NewReader([]byte{1, 2, 3})
		if b := r.Take(c.n); len(b) != 0 {
			t.Errorf("Take(%d): got %x", c.n, b)
		}
		stands(t, "Take", r, 3, c.want, c.want)
		for _, n := range []int{0, 1, 3, 4, -1} {
			if r.Num() != 0 || len(r.Take(n)) != 0 {
				t.Errorf("after Take(%d): something was read", c.n)
			}
			stands(t, "after Take", r, 3, c.want, c.want)
		}
	}
	r := octet.NewReader(nil)
	if len(r.Take(-1)) != 0 || r.Err() != api.ErrArg {
		t.Errorf("Take(-1) of no bytes: error %d", r.Err())
	}
	r = octet.NewReader(nil)
	if len(r.Take(1)) != 0 || r.Err() != api.ErrTrunc {
		t.Errorf("Take(1) of no bytes: error %d", r.Err())
	}
}

// P2.3, P2.4: numbers and bytes by turns; End's own error does not stay.
func TestReadByTurns(t *testing.T) {
	r := octet.NewReader(unhex(t, "25aabb402540ff"))
	stands(t, "at first", r, 7, api.OK, api.ErrForm)
	if n := r.Num(); n != 37 {
		t.Errorf("first number: got %d", n)
	}
	stands(t, "after a number", r, 6, api.OK, api.ErrForm)
	if b := r.Take(2); !bytes.Equal(b, []byte{0xaa, 0xbb}) {
		t.Errorf("bytes: got %x", b)
	}
	if n := r.Num(); n != 37 {
		t.Errorf("second number: got %d", n)
	}
	stands(t, "before the last number", r, 2, api.OK, api.ErrForm)
	if n := r.Num(); n != 255 {
		t.Errorf("last number: got %d", n)
	}
	stands(t, "at the end", r, 0, api.OK, api.OK)
	if r.Num() != 0 {
		t.Error("a number after the end")
	}
	stands(t, "after the end", r, 0, api.ErrTrunc, api.ErrTrunc)
}

// P2.3: what was read before an error stays read, and what was not remains.
func TestErrorConsumesNothing(t *testing.T) {
	r := octet.NewReader(unhex(t, "25c020000000000000"))
	if n := r.Num(); n != 37 {
		t.Errorf("the number before: got %d", n)
	}
	if r.Num() != 0 {
		t.Error("a number that is too great was read")
	}
	stands(t, "after it", r, 8, api.ErrRange, api.ErrRange)
}

// P2.5: a reader neither changes its bytes nor hangs on them, nor do its
// results share memory with it.
func TestReaderHasItsOwnMemory(t *testing.T) {
	whole := unhex(t, "010203042540ffeeee")
	kept := bytes.Clone(whole)
	b := whole[:7]
	r := octet.NewReader(b)
	other := octet.NewReader(b)
	first := r.Take(2)
	_ = append(first, 0x77, 0x77, 0x77)
	clear(first)
	if !bytes.Equal(whole, kept) {
		t.Fatalf("the argument became %x", whole)
	}
	clear(whole)
	second := r.Take(2)
	if !bytes.Equal(second, []byte{3, 4}) {
		t.Errorf("bytes: got %x", second)
	}
	if n := r.Num(); n != 37 {
		t.Errorf("first number: got %d", n)
	}
	if n := r.Num(); n != 255 {
		t.Errorf("second number: got %d", n)
	}
	if !bytes.Equal(second, []byte{3, 4}) || r.End() != api.OK {
		t.Errorf("bytes became %x, end %d", second, r.End())
	}
	if all := other.Take(7); !bytes.Equal(all, kept[:7]) {
		t.Errorf("the other reader: got %x", all)
	}
}
