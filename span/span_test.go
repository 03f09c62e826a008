package span_test

import (
	"math"
	"slices"
	"testing"

	"sounder/api"
	"sounder/span"
)

const most = api.MaxNumber

// noNumbers are ints that are not numbers.
func noNumbers() []int {
	return []int{-1, -2, -256, math.MinInt, math.MinInt + 1, most + 1, most + 2, 1 << 62, math.MaxInt - 1, math.MaxInt}
}

// noSets are the objects that are no set.
func noSets() map[string]*span.Set {
	return map[string]*span.Set{"nil": nil, "zero": {}}
}

// set is one with room for so many ranges, to which ranges are added in order.
func set(t *testing.T, room int, ranges ...api.Range) *span.Set {
	t.Helper()
	s, e := span.New(room)
	if s == nil || e != api.OK {
		t.Fatalf("New(%d): got %v, error %d", room, s, e)
	}
	for _, r := range ranges {
		add(t, s, r.Lo, r.Hi, api.OK)
	}
	return s
}

func add(t *testing.T, s *span.Set, lo, hi int, want api.Errno) {
	t.Helper()
	if e := s.Add(lo, hi); e != want {
		t.Errorf("Add(%d, %d) to %v: error %d, want %d", lo, hi, s.Ranges(), e, want)
	}
}

func cut(t *testing.T, s *span.Set, below int, want api.Errno) {
	t.Helper()
	if e := s.Cut(below); e != want {
		t.Errorf("Cut(%d) of %v: error %d, want %d", below, s.Ranges(), e, want)
	}
}

// stands checks a set's ranges, and what follows from them.
func stands(t *testing.T, s *span.Set, want ...api.Range) {
	t.Helper()
	if got := s.Ranges(); !slices.Equal(got, want) {
		t.Errorf("Ranges: got %v, want %v", got, want)
	}
	count, top, bottom := 0, -1, -1
	for i, r := range want {
		count += r.Hi - r.Lo + 1
		if i == 0 {
			top = r.Hi
		}
		bottom = r.Lo
	}
	if s.Len() != len(want) || s.Count() != count || s.Max() != top || s.Min() != bottom {
		t.Errorf("of %v: got Len %d, Count %d, Max %d, Min %d, want %d, %d, %d, %d", want, s.Len(), s.Count(), s.Max(), s.Min(), len(want), count, top, bottom)
	}
}

// P4.1: which capacities there are.
func TestNew(t *testing.T) {
	for _, room := range []int{1, 2, 3, 8, 100, 255, 256} {
		s, e := span.New(room)
		if s == nil || e != api.OK {
			t.Fatalf("New(%d): got %v, error %d", room, s, e)
		}
		stands(t, s)
	}
	for _, room := range []int{0, -1, -2, -256, 257, 258, 512, 1 << 32, 1<<32 + 1, most, math.MinInt, math.MaxInt} {
		if s, e := span.New(room); s != nil || e != api.ErrArg {
			t.Errorf("New(%d): got %v, error %d", room, s, e)
		}
	}
}

// The promises' first lines: a nil and a zero Set, in each method.
func TestNoSet(t *testing.T) {
	full := set(t, 1, api.Range{Lo: 0, Hi: most})
	for name, s := range noSets() {
		for _, n := range append(noNumbers(), 0, 1, 5, most) {
			if s.Add(n, n) != api.ErrNil || s.Add(0, n) != api.ErrNil || s.Add(n, 0) != api.ErrNil || s.Cut(n) != api.ErrNil {
				t.Errorf("%s: Add or Cut with %d is not ErrNil", name, n)
			}
			if s.Has(n) || s.Next(n) != -1 {
				t.Errorf("%s: got Has(%d) %v, Next(%d) %d", name, n, s.Has(n), n, s.Next(n))
			}
		}
		stands(t, s)
		if s.Copy() != nil {
			t.Errorf("%s: there is a copy", name)
		}
		for other, o := range noSets() {
			if s.Same(o) {
				t.Errorf("%s and %s are the same", name, other)
			}
		}
		for _, o := range []*span.Set{set(t, 1), full} {
			if s.Same(o) || o.Same(s) {
				t.Errorf("%s and %v are the same", name, o.Ranges())
			}
		}
	}
}

// P4.1: the chapter's examples.
func TestExamples(t *testing.T) {
	s := set(t, 2)
	add(t, s, 5, 7, api.OK)
	add(t, s, 1, 2, api.OK)
	add(t, s, 9, 9, api.ErrLimit)
	stands(t, s, api.Range{Lo: 5, Hi: 7}, api.Range{Lo: 1, Hi: 2})
	add(t, s, 3, 4, api.OK)
	stands(t, s, api.Range{Lo: 1, Hi: 7})
	if s.Count() != 7 || s.Next(1) != 8 || s.Next(9) != 9 {
		t.Errorf("got Count %d, Next %d and %d", s.Count(), s.Next(1), s.Next(9))
	}
	add(t, s, 2, 1, api.ErrArg)
	cut(t, s, 3, api.OK)
	stands(t, s, api.Range{Lo: 3, Hi: 7})
	cut(t, s, 8, api.OK)
	stands(t, s)
}

// P4.1: how an addition meets ranges that are there.
func TestAdd(t *testing.T) {
	for _, c := range []struct {
		lo, hi int
		want   []api.Range
	}{
		// Apart from both, with one number missing, and then touching.
		{0, 8, []api.Range{{Lo: 20, Hi: 29}, {Lo: 10, Hi: 15}, {Lo: 0, Hi: 8}}},
		{8, 8, []api.Range{{Lo: 20, Hi: 29}, {Lo: 10, Hi: 15}, {Lo: 8, Hi: 8}}},
		{9, 9, []api.Range{{Lo: 20, Hi: 29}, {Lo: 9, Hi: 15}}},
		{0, 9, []api.Range{{Lo: 20, Hi: 29}, {Lo: 0, Hi: 15}}},
		{16, 16, []api.Range{{Lo: 20, Hi: 29}, {Lo: 10, Hi: 16}}},
		{17, 17, []api.Range{{Lo: 20, Hi: 29}, {Lo: 17, Hi: 17}, {Lo: 10, Hi: 15}}},
		{17, 18, []api.Range{{Lo: 20, Hi: 29}, {Lo: 17, Hi: 18}, {Lo: 10, Hi: 15}}},
		{18, 18, []api.Range{{Lo: 20, Hi: 29}, {Lo: 18, Hi: 18}, {Lo: 10, Hi: 15}}},
		{19, 19, []api.Range{{Lo: 19, Hi: 29}, {Lo: 10, Hi: 15}}},
		{30, 30, []api.Range{{Lo: 20, Hi: 30}, {Lo: 10, Hi: 15}}},
		{31, 31, []api.Range{{Lo: 31, Hi: 31}, {Lo: 20, Hi: 29}, {Lo: 10, Hi: 15}}},
		// Within one, and over an end.
		{10, 15, []api.Range{{Lo: 20, Hi: 29}, {Lo: 10, Hi: 15}}},
		{12, 12, []api.Range{{Lo: 20, Hi: 29}, {Lo: 10, Hi: 15}}},
		{5, 12, []api.Range{{Lo: 20, Hi: 29}, {Lo: 5, Hi: 15}}},
		{12, 18, []api.Range{{Lo: 20, Hi: 29}, {Lo: 10, Hi: 18}}},
		{5, 17, []api.Range{{Lo: 20, Hi: 29}, {Lo: 5, Hi: 17}}},
		// All that is missing between them, by touching and by overlapping.
		{16, 19, []api.Range{{Lo: 10, Hi: 29}}},
		{12, 22, []api.Range{{Lo: 10, Hi: 29}}},
		{16, 40, []api.Range{{Lo: 10, Hi: 40}}},
		{0, 19, []api.Range{{Lo: 0, Hi: 29}}},
		{0, 40, []api.Range{{Lo: 0, Hi: 40}}},
		{0, most, []api.Range{{Lo: 0, Hi: most}}},
	} {
		s := set(t, 3, api.Range{Lo: 20, Hi: 29}, api.Range{Lo: 10, Hi: 15})
		add(t, s, c.lo, c.hi, api.OK)
		stands(t, s, c.want...)
	}
}

// P4.1, P4.4: ends that are not numbers, and ends in the wrong order, whatever
// the set; nothing changes.
func TestAddErrors(t *testing.T) {
	for _, s := range []*span.Set{set(t, 2), set(t, 2, api.Range{Lo: 5, Hi: 7}), set(t, 1, api.Range{Lo: 5, Hi: 7}), set(t, 1, api.Range{Lo: 0, Hi: most})} {
		before := s.Ranges()
		for _, wrong := range noNumbers() {
			for _, other := range []int{0, 1, 5, 6, most - 1, most, wrong} {
				add(t, s, wrong, other, api.ErrArg)
				add(t, s, other, wrong, api.ErrArg)
			}
		}
		for _, c := range [][2]int{{1, 0}, {6, 5}, {7, 5}, {9, 8}, {most, most - 1}, {most, 0}} {
			add(t, s, c[0], c[1], api.ErrArg)
		}
		add(t, s, -5, most+5, api.ErrArg)
		add(t, s, math.MinInt, math.MaxInt, api.ErrArg)
		stands(t, s, before...)
	}
}

// P4.1: the numbers 0 and 2^53 - 1.
func TestEndsOfNumbers(t *testing.T) {
	s := set(t, 3, api.Range{Lo: most, Hi: most}, api.Range{Lo: 0, Hi: 0})
	stands(t, s, api.Range{Lo: most, Hi: most}, api.Range{Lo: 0, Hi: 0})
	add(t, s, most-1, most-1, api.OK)
	add(t, s, 1, 1, api.OK)
	stands(t, s, api.Range{Lo: most - 1, Hi: most}, api.Range{Lo: 0, Hi: 1})
	add(t, s, 0, most, api.OK)
	stands(t, s, api.Range{Lo: 0, Hi: most})
	if s.Count() != most+1 || !s.Has(0) || !s.Has(most) || s.Next(0) != -1 || s.Next(most) != -1 {
		t.Errorf("of all numbers: got Count %d, Has %v and %v, Next %d and %d", s.Count(), s.Has(0), s.Has(most), s.Next(0), s.Next(most))
	}
	cut(t, s, most, api.OK)
	stands(t, s, api.Range{Lo: most, Hi: most})
	cut(t, s, most, api.OK)
	stands(t, s, api.Range{Lo: most, Hi: most})
}

// comb is so many ranges of one number each, so far apart.
func comb(count, apart int) []api.Range {
	var l []api.Range
	for i := range count {
		l = append(l, api.Range{Lo: apart * i, Hi: apart * i})
	}
	return l
}

// P4.1, P4.4: one range more than the capacity changes nothing, wherever it would stand.
func TestOneTooMany(t *testing.T) {
	for _, room := range []int{1, 2, 3, 255, 256} {
		l := comb(room+1, 2)
		for missing := range l {
			others := slices.Delete(slices.Clone(l), missing, missing+1)
			s := set(t, room, others...)
			slices.Reverse(others)
			add(t, s, l[missing].Lo, l[missing].Hi, api.ErrLimit)
			stands(t, s, others...)
		}
	}
}

// P4.1: what fits into a full set: what is there, what touches, what merges.
func TestFull(t *testing.T) {
	for _, room := range []int{1, 2, 3, 255, 256} {
		last := 2 * (room - 1)
		s := set(t, room, comb(room, 2)...)
		add(t, s, last+2, last+2, api.ErrLimit)
		add(t, s, last, last, api.OK)
		add(t, s, 0, 0, api.OK)
		add(t, s, last, last+1, api.OK)
		add(t, s, last+3, last+3, api.ErrLimit)
		if s.Len() != room || s.Max() != last+1 || s.Count() != room+1 {
			t.Errorf("room %d: got Len %d, Max %d, Count %d", room, s.Len(), s.Max(), s.Count())
		}
		if room > 1 {
			// The merged ranges leave room for just one.
			add(t, s, 1, 1, api.OK)
			add(t, s, last+5, most, api.OK)
			add(t, s, last+3, last+3, api.ErrLimit)
		}
		add(t, s, 0, most-1, api.OK)
		add(t, s, most, most, api.OK)
		stands(t, s, api.Range{Lo: 0, Hi: most})
	}
}

// P4.1: what was cut off leaves room.
func TestCutLeavesRoom(t *testing.T) {
	s := set(t, 2, api.Range{Lo: 1, Hi: 3}, api.Range{Lo: 6, Hi: 8})
	add(t, s, 20, 20, api.ErrLimit)
	cut(t, s, 3, api.OK)
	add(t, s, 20, 20, api.ErrLimit)
	cut(t, s, 4, api.OK)
	add(t, s, 20, 20, api.OK)
	add(t, s, 1, 1, api.ErrLimit)
	stands(t, s, api.Range{Lo: 20, Hi: 20}, api.Range{Lo: 6, Hi: 8})
}

// P4.1: below all numbers, before, within and behind ranges, beyond all numbers.
func TestCut(t *testing.T) {
	top, middle, bottom := api.Range{Lo: 20, Hi: 29}, api.Range{Lo: 10, Hi: 10}, api.Range{Lo: 2, Hi: 5}
	for _, c := range []struct {
		below int
		want  []api.Range
	}{
		{0, []api.Range{top, middle, bottom}}, {1, []api.Range{top, middle, bottom}}, {2, []api.Range{top, middle, bottom}},
		{3, []api.Range{top, middle, {Lo: 3, Hi: 5}}}, {5, []api.Range{top, middle, {Lo: 5, Hi: 5}}},
		{6, []api.Range{top, middle}}, {9, []api.Range{top, middle}}, {10, []api.Range{top, middle}},
		{11, []api.Range{top}}, {20, []api.Range{top}}, {21, []api.Range{{Lo: 21, Hi: 29}}}, {29, []api.Range{{Lo: 29, Hi: 29}}},
		{30, nil}, {31, nil}, {most - 1, nil}, {most, nil},
	} {
		s := set(t, 3, top, middle, bottom)
		cut(t, s, c.below, api.OK)
		stands(t, s, c.want...)
		cut(t, s, c.below, api.OK)
		stands(t, s, c.want...)
	}
}

// P4.1: Cut of a set without numbers.
func TestCutOfNothing(t *testing.T) {
	for _, below := range []int{0, 1, most} {
		s := set(t, 1)
		cut(t, s, below, api.OK)
		stands(t, s)
		add(t, s, 0, 0, api.OK)
		stands(t, s, api.Range{})
	}
}

// P4.1, P4.4: Cut below what is no number changes nothing.
func TestCutErrors(t *testing.T) {
	for _, s := range []*span.Set{set(t, 1), set(t, 1, api.Range{Lo: 0, Hi: most}), set(t, 2, api.Range{Lo: 3, Hi: 4}, api.Range{Lo: 6, Hi: 6})} {
		before := s.Ranges()
		for _, wrong := range noNumbers() {
			cut(t, s, wrong, api.ErrArg)
		}
		stands(t, s, before...)
	}
}

// P4.2: what is in a set, and the next number that is not.
func TestHasAndNext(t *testing.T) {
	s := set(t, 4, api.Range{Lo: 3, Hi: 5}, api.Range{Lo: 7, Hi: 7}, api.Range{Lo: 1000, Hi: 2000}, api.Range{Lo: most - 1, Hi: most})
	for _, c := range []struct {
		n, next int
		has     bool
	}{
		{0, 0, false}, {2, 2, false}, {3, 6, true}, {4, 6, true}, {5, 6, true}, {6, 6, false}, {7, 8, true}, {8, 8, false},
		{999, 999, false}, {1000, 2001, true}, {1500, 2001, true}, {2000, 2001, true}, {2001, 2001, false},
		{most - 2, most - 2, false}, {most - 1, -1, true}, {most, -1, true},
	} {
		if s.Has(c.n) != c.has || s.Next(c.n) != c.next {
			t.Errorf("Has, Next of %d: got %v, %d, want %v, %d", c.n, s.Has(c.n), s.Next(c.n), c.has, c.next)
		}
	}
}

// P4.2: Has and Next of what is no number, and in an empty set.
func TestHasAndNextOfNothing(t *testing.T) {
	empty, full := set(t, 1), set(t, 1, api.Range{Lo: 0, Hi: most})
	for _, s := range []*span.Set{empty, full, set(t, 2, api.Range{Lo: 0, Hi: 3}, api.Range{Lo: 6, Hi: 6})} {
		for _, wrong := range noNumbers() {
			if s.Has(wrong) || s.Next(wrong) != -1 {
				t.Errorf("%v: got Has(%d) %v, Next(%d) %d", s.Ranges(), wrong, s.Has(wrong), wrong, s.Next(wrong))
			}
		}
	}
	for _, n := range []int{0, 1, 77, most - 1, most} {
		if empty.Has(n) || empty.Next(n) != n {
			t.Errorf("empty: got Has(%d) %v, Next(%d) %d", n, empty.Has(n), n, empty.Next(n))
		}
		if !full.Has(n) || full.Next(n) != -1 {
			t.Errorf("full: got Has(%d) %v, Next(%d) %d", n, full.Has(n), n, full.Next(n))
		}
	}
}

// P4.3: the same numbers and the same capacity.
func TestSame(t *testing.T) {
	several := func() []*span.Set {
		return []*span.Set{
			set(t, 1), set(t, 2), set(t, 256),
			set(t, 1, api.Range{Lo: 0, Hi: 0}), set(t, 2, api.Range{Lo: 0, Hi: 0}),
			set(t, 2, api.Range{Lo: 1, Hi: 4}), set(t, 2, api.Range{Lo: 1, Hi: 5}), set(t, 2, api.Range{Lo: 0, Hi: 4}),
			set(t, 2, api.Range{Lo: 1, Hi: 2}, api.Range{Lo: 4, Hi: 4}), set(t, 3, api.Range{Lo: 1, Hi: 2}, api.Range{Lo: 4, Hi: 4}),
			set(t, 2, api.Range{Lo: 1, Hi: 1}, api.Range{Lo: 3, Hi: 4}), set(t, 1, api.Range{Lo: 0, Hi: most}),
		}
	}
	for i, a := range several() {
		for j, b := range several() {
			if a.Same(b) != (i == j) {
				t.Errorf("Same of set %d and set %d: got %v", i, j, a.Same(b))
			}
		}
		if !a.Same(a) {
			t.Errorf("Same of set %d and itself: got false", i)
		}
	}
}

// P4.3: sets that became the same in different ways.
func TestSameBySteps(t *testing.T) {
	a := set(t, 3, api.Range{Lo: 9, Hi: 9}, api.Range{Lo: 5, Hi: 5}, api.Range{Lo: 7, Hi: 7}, api.Range{Lo: 8, Hi: 8}, api.Range{Lo: 6, Hi: 6})
	b := set(t, 3, api.Range{Lo: 0, Hi: 9})
	if a.Same(b) || b.Same(a) {
		t.Error("the same before Cut")
	}
	cut(t, b, 5, api.OK)
	if !a.Same(b) || !b.Same(a) {
		t.Error("not the same after Cut")
	}
	cut(t, a, 10, api.OK)
	cut(t, b, most, api.OK)
	if !a.Same(b) || !a.Same(set(t, 3)) {
		t.Error("not the same without numbers")
	}
}

// P4.3, P4.4: what happens to a set does not happen to its copy, nor the other way round.
func TestCopy(t *testing.T) {
	changes := map[string]func(s *span.Set){
		"merged":   func(s *span.Set) { add(t, s, 3, 4, api.OK) },
		"longer":   func(s *span.Set) { add(t, s, 8, 8, api.OK) },
		"one more": func(s *span.Set) { add(t, s, 20, 30, api.OK) },
		"between":  func(s *span.Set) { add(t, s, 11, 11, api.OK) },
		"shorter":  func(s *span.Set) { cut(t, s, 2, api.OK) },
		"one less": func(s *span.Set) { cut(t, s, 5, api.OK) },
		"emptied":  func(s *span.Set) { cut(t, s, most, api.OK) },
	}
	for name, change := range changes {
		s := set(t, 4, api.Range{Lo: 1, Hi: 2}, api.Range{Lo: 5, Hi: 7}, api.Range{Lo: 13, Hi: 14})
		before := s.Ranges()
		c := s.Copy()
		if !s.Same(c) || !c.Same(s) {
			t.Fatalf("%s: the copy is not the same", name)
		}
		change(c)
		stands(t, s, before...)
		changed := c.Ranges()
		again := s.Copy()
		change(s)
		stands(t, again, before...)
		stands(t, c, changed...)
		if !s.Same(c) || s.Same(again) {
			t.Errorf("%s: Same after the change", name)
		}
	}
}

// P4.3: a copy has the capacity, too.
func TestCopyKeepsRoom(t *testing.T) {
	for _, room := range []int{1, 2, 256} {
		c := set(t, room).Copy()
		for _, r := range comb(room, 2) {
			add(t, c, r.Lo, r.Hi, api.OK)
		}
		add(t, c, 2*room, 2*room, api.ErrLimit)
		full := c.Copy()
		add(t, full, 2*room, 2*room, api.ErrLimit)
		if !full.Same(c) {
			t.Errorf("room %d: the copy of a full set is not the same", room)
		}
	}
}

// P4.3, P4.4: additions to a set and to its copy do not meet in spare capacity.
func TestCopiesGrowApart(t *testing.T) {
	s := set(t, 8)
	for i := range 7 {
		add(t, s, 10*i, 10*i, api.OK)
		c := s.Copy()
		add(t, c, 1000, 1000, api.OK)
		add(t, s, 2000, 2000, api.OK)
		if c.Max() != 1000 || s.Max() != 2000 || c.Has(2000) || s.Has(1000) {
			t.Errorf("after %d ranges: got Max %d and %d", i+1, c.Max(), s.Max())
		}
		s = set(t, 8, comb(i+1, 10)...)
	}
}

// P4.4: the ranges that were returned are the caller's.
func TestRangesAreNew(t *testing.T) {
	s := set(t, 8, comb(5, 10)...)
	want := s.Ranges()
	given, other := s.Ranges(), s.Ranges()
	for i := range given {
		given[i] = api.Range{Lo: -7, Hi: -7}
	}
	spare := given[:cap(given)]
	for i := range spare {
		spare[i] = api.Range{Lo: -8, Hi: -8}
	}
	stands(t, s, want...)
	if !slices.Equal(other, want) {
		t.Errorf("another result became %v", other)
	}
	add(t, s, 0, 100, api.OK)
	cut(t, s, 50, api.OK)
	if !slices.Equal(other, want) {
		t.Errorf("an earlier result became %v", other)
	}
}
