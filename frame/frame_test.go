package frame_test

import (
	"bytes"
	"math"
	"slices"
	"testing"

	"sounder/api"
	"sounder/frame"
)

const most = api.MaxNumber

// noNumbers are ints that are not numbers.
func noNumbers() []int {
	return []int{-1, -2, -256, math.MinInt, math.MinInt + 1, most + 1, most + 2, 1 << 62, math.MaxInt - 1, math.MaxInt}
}

// plain is an ACK without Ecn, marked one with it.
func plain(delay int, ranges ...api.Range) api.Ack {
	return api.Ack{Delay: delay, Ranges: ranges}
}

func marked(delay int, ecn [3]int, ranges ...api.Range) api.Ack {
	return api.Ack{Delay: delay, Ranges: ranges, Marked: true, Ecn: ecn}
}

// comb is so many ranges of one number each, as close as may be, down to lo.
func comb(count, lo int) []api.Range {
	var l []api.Range
	for i := count - 1; i >= 0; i-- {
		l = append(l, api.Range{Lo: lo + 2*i, Hi: lo + 2*i})
	}
	return l
}

// number is an encoding in so many bytes.
func number(n, size int) []byte {
	b := make([]byte, size)
	for i := range b {
		b[size-1-i] = byte(n >> (8 * i))
	}
	b[0] |= map[int]byte{1: 0, 2: 0x40, 4: 0x80, 8: 0xc0}[size]
	return b
}

// join is bytes and numbers in a row; an int stands in its shortest encoding.
func join(parts ...any) []byte {
	var b []byte
	for _, p := range parts {
		switch x := p.(type) {
		case []byte:
			b = append(b, x...)
		case int:
			b = append(b, shortest(x)...)
		default:
			panic("neither bytes nor a number")
		}
	}
	return b
}

func shortest(n int) []byte {
	switch {
	case n < 1<<6:
		return number(n, 1)
	case n < 1<<14:
		return number(n, 2)
	case n < 1<<30:
		return number(n, 4)
	}
	return number(n, 8)
}

// valids are ACKs that are valid, ordinary ones and those at the edges.
func valids() map[string]api.Ack {
	full := comb(256, most-510)
	return map[string]api.Ack{
		"one number":            plain(0, api.Range{Lo: 5, Hi: 5}),
		"the least number":      plain(0, api.Range{}),
		"the greatest number":   plain(most, api.Range{Lo: most, Hi: most}),
		"all numbers":           plain(7, api.Range{Lo: 0, Hi: most}),
		"two ranges":            plain(100, api.Range{Lo: 70, Hi: 80}, api.Range{Lo: 60, Hi: 60}),
		"as close as may be":    plain(1, api.Range{Lo: 4, Hi: 9}, api.Range{Lo: 0, Hi: 2}),
		"as far as may be":      plain(1, api.Range{Lo: most, Hi: most}, api.Range{}),
		"three ranges":          plain(1, api.Range{Lo: 900, Hi: 1000}, api.Range{Lo: 100, Hi: 300}, api.Range{Lo: 1, Hi: 50}),
		"256 ranges":            plain(1, comb(256, 0)...),
		"256 ranges at the top": plain(1, full...),
		"marked":                marked(100, [3]int{1, 0, 2}, api.Range{Lo: 70, Hi: 80}, api.Range{Lo: 60, Hi: 60}),
		"marked without counts": marked(0, [3]int{}, api.Range{Lo: 3, Hi: 4}),
		"the greatest counts":   marked(most, [3]int{most, most, most}, api.Range{Lo: 0, Hi: most}),
		"256 ranges, marked":    marked(most, [3]int{most, most, most}, full...),
	}
}

// invalids are ACKs that are not valid, each for one reason.
func invalids() map[string]api.Ack {
	return map[string]api.Ack{
		"zero":                       {},
		"no ranges":                  plain(5),
		"an empty list":              {Ranges: []api.Range{}},
		"257 ranges":                 plain(0, comb(257, 0)...),
		"300 ranges":                 plain(0, comb(300, 9)...),
		"a range upside down":        plain(0, api.Range{Lo: 6, Hi: 5}),
		"the last range upside down": plain(0, api.Range{Lo: 9, Hi: 9}, api.Range{Lo: 6, Hi: 5}),
		"ranges that touch":          plain(0, api.Range{Lo: 7, Hi: 9}, api.Range{Lo: 5, Hi: 6}),
		"ranges that share":          plain(0, api.Range{Lo: 7, Hi: 9}, api.Range{Lo: 5, Hi: 7}),
		"a range inside":             plain(0, api.Range{Lo: 5, Hi: 9}, api.Range{Lo: 6, Hi: 7}),
		"a range twice":              plain(0, api.Range{Lo: 5, Hi: 9}, api.Range{Lo: 5, Hi: 9}),
		"the lesser one first":       plain(0, api.Range{Lo: 1, Hi: 2}, api.Range{Lo: 7, Hi: 9}),
		"the third one too close":    plain(0, api.Range{Lo: 20, Hi: 30}, api.Range{Lo: 10, Hi: 12}, api.Range{Lo: 3, Hi: 9}),
		"the third above the second": plain(0, api.Range{Lo: 20, Hi: 30}, api.Range{Lo: 10, Hi: 12}, api.Range{Lo: 14, Hi: 15}),
		"two ranges at 0":            plain(0, api.Range{}, api.Range{}),
		"a range below 0":            plain(0, api.Range{Lo: 1, Hi: 1}, api.Range{Lo: -1, Hi: -1}),
		"from below 0":               plain(0, api.Range{Lo: -1, Hi: 4}),
		"from below 0 at the end":    plain(0, api.Range{Lo: 8, Hi: 9}, api.Range{Lo: -1, Hi: 4}),
		"to above all numbers":       plain(0, api.Range{Lo: 4, Hi: most + 1}),
		"the first count, unmarked":  {Ranges: comb(1, 5), Ecn: [3]int{1, 0, 0}},
		"the second one, unmarked":   {Ranges: comb(1, 5), Ecn: [3]int{0, 1, 0}},
		"the third one, unmarked":    {Ranges: comb(1, 5), Ecn: [3]int{0, 0, most}},
	}
}

// fields are pointers to all that must be a number in an ACK.
func fields(a *api.Ack) []*int {
	l := []*int{&a.Delay}
	for i := range a.Ranges {
		l = append(l, &a.Ranges[i].Lo, &a.Ranges[i].Hi)
	}
	return append(l, &a.Ecn[0], &a.Ecn[1], &a.Ecn[2])
}

// isZero tells whether nothing of an ACK is set.
func isZero(a api.Ack) bool {
	return a.Delay == 0 && len(a.Ranges) == 0 && !a.Marked && a.Ecn == [3]int{}
}

// P5.1: which ACKs are valid.
func TestCheck(t *testing.T) {
	for name, a := range valids() {
		if e := frame.Check(a); e != api.OK {
			t.Errorf("Check of %s: error %d", name, e)
		}
	}
	for name, a := range invalids() {
		if e := frame.Check(a); e != api.ErrArg {
			t.Errorf("Check of %s: error %d, want ErrArg", name, e)
		}
	}
}

// P5.1: an ACK with something that is no number, at each place, is not valid.
func TestCheckNoNumbers(t *testing.T) {
	for name, a := range valids() {
		if len(a.Ranges) > 3 {
			continue
		}
		for place := range fields(&a) {
			for _, n := range noNumbers() {
				b := frame.Copy(a)
				*fields(&b)[place] = n
				if e := frame.Check(b); e != api.ErrArg {
					t.Errorf("Check of %s with %d at place %d: error %d, want ErrArg", name, n, place, e)
				}
			}
		}
	}
	for _, n := range noNumbers() {
		for _, m := range noNumbers() {
			a := plain(0, api.Range{Lo: 10, Hi: 10}, api.Range{Lo: n, Hi: m}, api.Range{Lo: 3, Hi: 3})
			if e := frame.Check(a); e != api.ErrArg {
				t.Errorf("Check of %v: error %d, want ErrArg", a, e)
			}
		}
	}
}

// P5.1: the encoding, with the examples of the chapter.
func TestBytes(t *testing.T) {
	for name, c := range map[string]struct {
		a    api.Ack
		want []byte
	}{
		"one number":        {plain(0, api.Range{Lo: 5, Hi: 5}), []byte{2, 5, 0, 0, 0}},
		"marked":            {marked(100, [3]int{1, 0, 2}, api.Range{Lo: 70, Hi: 80}, api.Range{Lo: 60, Hi: 60}), []byte{3, 0x40, 0x50, 0x40, 0x64, 1, 10, 8, 0, 1, 0, 2}},
		"marked, no counts": {marked(1, [3]int{}, api.Range{Lo: 3, Hi: 4}), []byte{3, 4, 1, 0, 1, 0, 0, 0}},
		"close":             {plain(2, api.Range{Lo: 4, Hi: 9}, api.Range{Lo: 0, Hi: 2}), []byte{2, 9, 2, 1, 5, 0, 2}},
		"far":               {plain(3, api.Range{Lo: most, Hi: most}, api.Range{}), join(2, most, 3, 1, 0, most-2, 0)},
		"three":             {plain(70, api.Range{Lo: 900, Hi: 1000}, api.Range{Lo: 100, Hi: 300}, api.Range{Lo: 1, Hi: 50}), join(2, 1000, 70, 2, 100, 598, 200, 48, 49)},
		"all numbers":       {marked(most, [3]int{most, most - 1, 64}, api.Range{Lo: 0, Hi: most}), join(3, most, most, 0, most, most, most-1, 64)},
	} {
		got, e := frame.Bytes(c.a)
		if e != api.OK || !bytes.Equal(got, c.want) {
			t.Errorf("Bytes of %s: got % x, error %d, want % x", name, got, e, c.want)
		}
	}
}

// P5.1: numbers stand in their shortest encodings, at the edges of the sizes.
func TestBytesSizes(t *testing.T) {
	for _, n := range []int{0, 1, 63, 64, 65, 16383, 16384, 1<<30 - 1, 1 << 30, 1 << 40, most} {
		a := marked(n, [3]int{n, n, n}, api.Range{Lo: 0, Hi: n})
		want := join(3, n, n, 0, n, n, n, n)
		if got, e := frame.Bytes(a); e != api.OK || !bytes.Equal(got, want) {
			t.Errorf("Bytes with %d: got % x, error %d, want % x", n, got, e, want)
		}
	}
	for _, count := range []int{1, 2, 64, 65, 256} {
		want := join(2, 2*count-2, 0, count-1, bytes.Repeat([]byte{0}, 2*count-1))
		if got, e := frame.Bytes(plain(0, comb(count, 0)...)); e != api.OK || !bytes.Equal(got, want) {
			t.Errorf("Bytes of %d ranges: got % x, error %d, want % x", count, got, e, want)
		}
	}
}

// P5.1: what is not valid has no encoding.
func TestBytesInvalid(t *testing.T) {
	for name, a := range invalids() {
		if got, e := frame.Bytes(a); got != nil || e != api.ErrArg {
			t.Errorf("Bytes of %s: got % x, error %d, want ErrArg", name, got, e)
		}
	}
}

// P5.1: Same holds all fields against each other, of invalid ACKs, too.
func TestSame(t *testing.T) {
	all := valids()
	for name, a := range invalids() {
		all["not valid: "+name] = a
	}
	for name, a := range all {
		if !frame.Same(a, a) || !frame.Same(a, frame.Copy(a)) {
			t.Errorf("%s is not the same as itself", name)
		}
		for place := range fields(&a) {
			b := frame.Copy(a)
			*fields(&b)[place]++
			if frame.Same(a, b) || frame.Same(b, a) {
				t.Errorf("%s is the same with another number at place %d", name, place)
			}
		}
		others := []api.Ack{frame.Copy(a), frame.Copy(a), frame.Copy(a)}
		others[0].Marked = !a.Marked
		others[1].Ranges = append(others[1].Ranges, api.Range{})
		others[2].Ranges = append([]api.Range{{}}, others[2].Ranges...)
		for i, b := range others {
			if frame.Same(a, b) || frame.Same(b, a) {
				t.Errorf("%s is the same as other %d of it", name, i)
			}
		}
	}
	if !frame.Same(api.Ack{Ranges: []api.Range{}}, api.Ack{}) || !frame.Same(api.Ack{}, api.Ack{Ranges: []api.Range{}}) {
		t.Error("nil and empty lists are not the same")
	}
}

// P5.1, P5.4: a copy is the same, in memory of its own.
func TestCopy(t *testing.T) {
	all := valids()
	for name, a := range invalids() {
		all["not valid: "+name] = a
	}
	for name, a := range all {
		whole := slices.Grow(slices.Clone(a.Ranges), 8)
		a.Ranges = whole
		b := frame.Copy(a)
		if b.Delay != a.Delay || b.Marked != a.Marked || b.Ecn != a.Ecn || !slices.Equal(b.Ranges, a.Ranges) {
			t.Errorf("Copy of %s: got %v", name, b)
		}
		before := slices.Clone(a.Ranges)
		for i := range b.Ranges {
			b.Ranges[i] = api.Range{Lo: -7, Hi: -7}
		}
		_ = append(b.Ranges, api.Range{Lo: -7, Hi: -7})
		spare := whole[:cap(whole)][len(whole):]
		if !slices.Equal(a.Ranges, before) || slices.Contains(spare, api.Range{Lo: -7, Hi: -7}) {
			t.Errorf("Copy of %s shares memory", name)
		}
	}
}

// next checks what Next and Parse make of bytes; size is how many bytes the ACK has.
func next(t *testing.T, b []byte, want api.Ack, size int, wantE api.Errno) {
	t.Helper()
	got, n, e := frame.Next(b)
	if e != wantE || n != size || !frame.Same(got, want) {
		t.Errorf("Next of % x: got %v, %d bytes, error %d, want %v, %d, %d", b, got, n, e, want, size, wantE)
	}
	if wantE == api.OK && size < len(b) {
		want, wantE = api.Ack{}, api.ErrForm
	}
	if got, e := frame.Parse(b); e != wantE || !frame.Same(got, want) {
		t.Errorf("Parse of % x: got %v, error %d, want %v, %d", b, got, e, want, wantE)
	}
}

// fails checks that bytes are refused.
func fails(t *testing.T, b []byte, want api.Errno) {
	t.Helper()
	next(t, b, api.Ack{}, 0, want)
}

// P5.2: what can be read, with the examples of the chapter; Parse wants no more bytes.
func TestNext(t *testing.T) {
	for _, c := range []struct {
		b    []byte
		want api.Ack
	}{
		{[]byte{2, 5, 0, 0, 0}, plain(0, api.Range{Lo: 5, Hi: 5})},
		{[]byte{2, 5, 0, 0, 5}, plain(0, api.Range{Lo: 0, Hi: 5})},
		{[]byte{2, 0, 9, 0, 0}, plain(9, api.Range{})},
		{[]byte{2, 5, 0, 1, 0, 3, 0}, plain(0, api.Range{Lo: 5, Hi: 5}, api.Range{})},
		{[]byte{2, 5, 0, 1, 3, 0, 0}, plain(0, api.Range{Lo: 2, Hi: 5}, api.Range{})},
		{[]byte{2, 9, 0, 2, 1, 1, 1, 0, 2}, plain(0, api.Range{Lo: 8, Hi: 9}, api.Range{Lo: 4, Hi: 5}, api.Range{Lo: 0, Hi: 2})},
		{[]byte{3, 0x40, 0x50, 0x40, 0x64, 1, 10, 8, 0, 1, 0, 2}, marked(100, [3]int{1, 0, 2}, api.Range{Lo: 70, Hi: 80}, api.Range{Lo: 60, Hi: 60})},
		{[]byte{3, 5, 0, 0, 0, 0, 0, 0}, marked(0, [3]int{}, api.Range{Lo: 5, Hi: 5})},
		{join(2, most, most, 0, most), plain(most, api.Range{Lo: 0, Hi: most})},
		{join(3, most, 0, 1, 0, most-2, 0, most, most, most), marked(0, [3]int{most, most, most}, api.Range{Lo: most, Hi: most}, api.Range{})},
		{join(2, 510, 0, 255, bytes.Repeat([]byte{0}, 511)), plain(0, comb(256, 0)...)},
	} {
		next(t, c.b, c.want, len(c.b), api.OK)
		for _, more := range [][]byte{{0}, {2}, {0xff}, c.b, bytes.Repeat([]byte{2}, 9000)} {
			next(t, append(slices.Clone(c.b), more...), c.want, len(c.b), api.OK)
		}
	}
}

// P5.2: numbers may have longer encodings than necessary, up to the longest frame that there is.
func TestNextLonger(t *testing.T) {
	for _, size := range []int{2, 4, 8} {
		in := func(n int) []byte { return number(n, size) }
		b := join(3, in(50), in(6), in(1), in(2), in(3), in(4), in(7), in(8), in(9))
		next(t, b, marked(6, [3]int{7, 8, 9}, api.Range{Lo: 48, Hi: 50}, api.Range{Lo: 39, Hi: 43}), len(b), api.OK)
	}
	longest := join(3, number(510, 8), number(6, 8), number(255, 8))
	for range 511 {
		longest = append(longest, number(0, 8)...)
	}
	longest = join(longest, number(7, 8), number(8, 8), number(9, 8))
	want := marked(6, [3]int{7, 8, 9}, comb(256, 0)...)
	next(t, longest, want, 4137, api.OK)
	next(t, append(longest, 0), want, 4137, api.OK)
	next(t, append(longest, make([]byte, 70000)...), want, 4137, api.OK)
	for _, cut := range []int{1, 8, 9, 4136} {
		fails(t, longest[:4137-cut], api.ErrTrunc)
	}
}

// P5.2: what begins otherwise is no ACK; the first byte is no number, so it has no longer encoding.
func TestNextFirstByte(t *testing.T) {
	fails(t, nil, api.ErrTrunc)
	fails(t, []byte{}, api.ErrTrunc)
	for first := range 256 {
		if first == 2 || first == 3 {
			fails(t, []byte{byte(first)}, api.ErrTrunc)
			continue
		}
		fails(t, []byte{byte(first)}, api.ErrFrame)
		fails(t, []byte{byte(first), 5, 0, 0, 0}, api.ErrFrame)
	}
	fails(t, []byte{0x40, 2, 5, 0, 0, 0}, api.ErrFrame)
	fails(t, []byte{0x40, 3, 5, 0, 0, 0, 0, 0, 0}, api.ErrFrame)
}

// P5.2: the errors of the reader, for each number of an ACK.
func TestNextReader(t *testing.T) {
	parts := []any{3, 50, 6, 1, 2, 3, 4, 7, 8, 9}
	for i := 1; i < len(parts); i++ {
		before := join(parts[:i]...)
		fails(t, before, api.ErrTrunc)
		for _, first := range []byte{0x40, 0x80, 0xc0} {
			fails(t, append(slices.Clone(before), first), api.ErrTrunc)
		}
		for _, no := range [][]byte{{0xc0, 0x20, 0, 0, 0, 0, 0, 0}, {0xff, 0xff, 0xff, 0xff, 0xff, 0xff, 0xff, 0xff}} {
			fails(t, append(slices.Clone(before), no[:7]...), api.ErrTrunc)
			fails(t, append(slices.Clone(before), no...), api.ErrRange)
			fails(t, join(before, no, join(parts[i+1:]...)), api.ErrRange)
		}
	}
}

// P5.2: at most 256 ranges; that there would be more is told as soon as their number has been read.
func TestNextLimit(t *testing.T) {
	for _, others := range []int{256, 257, 1000, 1 << 20, 1 << 40, most} {
		fails(t, join(2, 5, 0, others), api.ErrLimit)
		fails(t, join(2, most, 0, others, bytes.Repeat([]byte{0}, 3000)), api.ErrLimit)
		fails(t, join(3, 5, 0, others, 6), api.ErrLimit)
		fails(t, join(3, 5, 0, others, []byte{0xff, 0xff, 0xff, 0xff, 0xff, 0xff, 0xff, 0xff}), api.ErrLimit)
	}
	fails(t, join(2, 5, 0, number(256, 8)), api.ErrLimit)
	fails(t, join(2, 5, 0, 255), api.ErrTrunc)
	fails(t, join(2, 5, 0, 255, 6), api.ErrFrame)
	b := join(2, most, 0, 255, bytes.Repeat([]byte{0}, 511))
	next(t, b, plain(0, comb(256, most-510)...), len(b), api.OK)
}

// P5.2: a range that would begin or end below 0, as soon as that has been read.
func TestNextBelow(t *testing.T) {
	// With what follows, or without it, or with something that is no number.
	tails := [][]byte{nil, {0}, {0, 0, 0, 0, 0, 0}, {0xc0}, {0xff, 0xff, 0xff, 0xff, 0xff, 0xff, 0xff, 0xff}}
	for _, b := range [][]byte{
		{2, 5, 0, 0, 6},
		{3, 5, 0, 0, 6},
		{2, 0, 0, 0, 1},
		{2, 5, 0, 3, 6},
		join(2, 5, 0, 0, most),
		join(2, most-1, 0, 0, most),
		{2, 5, 0, 1, 5, 0},
		{2, 5, 0, 1, 4, 0},
		{2, 5, 0, 1, 3, 1},
		{2, 5, 0, 1, 0, 4},
		{3, 5, 0, 1, 0, 4},
		join(2, 5, 0, 1, 0, most),
		join(2, most, 0, 1, most, most),
		{2, 5, 0, 1, 0, 3, 1},
		{2, 5, 0, 1, 0, 0, 4},
		join(2, 5, 0, 1, 0, 0, most),
		{2, 9, 0, 2, 0, 0, 0, 6},
		{2, 9, 0, 2, 0, 0, 0, 0, 6},
	} {
		for _, tail := range tails {
			fails(t, append(slices.Clone(b), tail...), api.ErrFrame)
		}
		fails(t, b[:len(b)-1], api.ErrTrunc)
	}
}

// P5.3: Has asks the ranges of a valid ACK.
func TestHas(t *testing.T) {
	for name, a := range valids() {
		asked := slices.Concat(noNumbers(), []int{0, 1, 2, 3, most - 1, most})
		for _, r := range a.Ranges {
			asked = append(asked, r.Lo-2, r.Lo-1, r.Lo, r.Lo+1, r.Lo+(r.Hi-r.Lo)/2, r.Hi-1, r.Hi, r.Hi+1, r.Hi+2)
		}
		for _, n := range asked {
			want := slices.ContainsFunc(a.Ranges, func(r api.Range) bool { return n >= r.Lo && n <= r.Hi })
			if got := frame.Has(a, n); got != want {
				t.Errorf("Has(%s, %d): got %v, want %v", name, n, got, want)
			}
		}
	}
}

// P5.3: an ACK that is not valid has no numbers.
func TestHasInvalid(t *testing.T) {
	for name, a := range invalids() {
		for _, n := range []int{-1, 0, 1, 2, 5, 6, 7, 9, 10, 20, 30, 512, most, most + 1} {
			if frame.Has(a, n) {
				t.Errorf("%s has %d", name, n)
			}
		}
	}
	wrong := plain(-1, api.Range{Lo: 5, Hi: 9})
	if frame.Has(wrong, 7) {
		t.Error("an ACK with a wrong delay has a number")
	}
}

// P5.3: how long a delay is, with the examples of the chapter.
func TestWait(t *testing.T) {
	for _, c := range []struct{ delay, exp, want int }{
		{7, 3, 56000},
		{1, 0, 1000},
		{most, 20, most},
		{0, 0, 0},
		{0, 20, 0},
		{1, 20, 1 << 20 * 1000},
		{3, 1, 6000},
		{25000, 3, 200000000},
		{most, 0, most},
		{9007199254740, 0, 9007199254740000},
		{9007199254741, 0, most},
		{4503599627370, 1, 9007199254740000},
		{4503599627371, 1, most},
		{8589934, 20, 8589934 * (1 << 20) * 1000},
		{8589935, 20, most},
		{1 << 52, 11, most},
		{1 << 50, 20, most},
	} {
		if got, e := frame.Wait(c.delay, c.exp); got != c.want || e != api.OK {
			t.Errorf("Wait(%d, %d): got %d, error %d, want %d", c.delay, c.exp, got, e, c.want)
		}
	}
}

// P5.3: delays and exponents that may not be.
func TestWaitRange(t *testing.T) {
	refused := func(delay, exp int) {
		t.Helper()
		if got, e := frame.Wait(delay, exp); got != 0 || e != api.ErrRange {
			t.Errorf("Wait(%d, %d): got %d, error %d, want ErrRange", delay, exp, got, e)
		}
	}
	for _, exp := range []int{-1, -2, 21, 22, 63, 64, 65, 1 << 32, most, math.MinInt, math.MaxInt} {
		for _, delay := range []int{0, 1, 7, most, -1, most + 1} {
			refused(delay, exp)
		}
	}
	for _, delay := range noNumbers() {
		for exp := -1; exp <= 21; exp++ {
			refused(delay, exp)
		}
	}
}

// P5.4: bytes are only read, and what was read keeps no hold of them.
func TestNextMemory(t *testing.T) {
	for name, a := range valids() {
		b, _ := frame.Bytes(a)
		b = append(b, 1, 2, 3)
		before := bytes.Clone(b)
		got, n, _ := frame.Next(b)
		parsed, _ := frame.Parse(b[:n])
		if !bytes.Equal(b, before) {
			t.Errorf("%s: the bytes were changed", name)
		}
		clear(b)
		if !frame.Same(got, a) || !frame.Same(parsed, a) {
			t.Errorf("%s: what was read changed with the bytes", name)
		}
		got.Ranges[0].Lo = -1
		if !frame.Same(parsed, a) {
			t.Errorf("%s: two results share memory", name)
		}
	}
}

// P5.4: an ACK is only read, and two results share nothing.
func TestBytesMemory(t *testing.T) {
	for name, a := range valids() {
		wide := slices.Grow(slices.Clone(a.Ranges), 4)
		spare := wide[len(wide):cap(wide)]
		for i := range spare {
			spare[i] = api.Range{Lo: -7, Hi: -7}
		}
		c := a
		c.Ranges = wide
		one, _ := frame.Bytes(c)
		kept := bytes.Clone(one)
		two, _ := frame.Bytes(c)
		clear(two)
		_ = append(two, 9)
		frame.Check(c)
		frame.Has(c, 5)
		frame.Same(c, a)
		frame.Copy(c)
		if !bytes.Equal(one, kept) {
			t.Errorf("%s: two results share memory", name)
		}
		unchanged := !slices.ContainsFunc(spare, func(r api.Range) bool { return r != api.Range{Lo: -7, Hi: -7} })
		if !frame.Same(c, a) || !unchanged {
			t.Errorf("%s: the ACK was changed", name)
		}
	}
}
