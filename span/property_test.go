package span_test

import (
	"math/rand"
	"slices"
	"testing"

	"sounder/api"
	"sounder/span"
)

// row is a set by the definition: for each of some numbers in a row whether it is in.
type row struct {
	room int
	// base is the number of the first one.
	base int
	in   []bool
}

// ranges are the maximal runs, the greatest one first.
func (r row) ranges() []api.Range {
	var l []api.Range
	for i, in := range r.in {
		n := r.base + i
		switch {
		case !in:
		case i > 0 && r.in[i-1]:
			l[len(l)-1].Hi = n
		default:
			l = append(l, api.Range{Lo: n, Hi: n})
		}
	}
	slices.Reverse(l)
	return l
}

// add returns the row with numbers added, and the error.
func (r row) add(lo, hi int) (row, api.Errno) {
	if lo > hi {
		return r, api.ErrArg
	}
	more := row{r.room, r.base, slices.Clone(r.in)}
	for n := lo; n <= hi; n++ {
		more.in[n-r.base] = true
	}
	if len(more.ranges()) > r.room {
		return r, api.ErrLimit
	}
	return more, api.OK
}

// cut returns the row without lesser numbers.
func (r row) cut(below int) row {
	less := row{r.room, r.base, slices.Clone(r.in)}
	for i := range less.in {
		less.in[i] = less.in[i] && r.base+i >= below
	}
	return less
}

// next is the least missing number from n on, -1 if there is none.
func (r row) next(n int) int {
	for i := n - r.base; i < len(r.in); i++ {
		if !r.in[i] {
			return r.base + i
		}
	}
	if behind := r.base + len(r.in); behind <= most {
		return behind
	}
	return -1
}

// build is a set with the numbers of a row.
func (r row) build(t *testing.T) *span.Set {
	t.Helper()
	return set(t, r.room, r.ranges()...)
}

// matches checks a set against a row, in all that it tells, and P4.5.
func matches(t *testing.T, s *span.Set, r row) {
	t.Helper()
	stands(t, s, r.ranges()...)
	for i, in := range r.in {
		n := r.base + i
		if s.Has(n) != in || s.Next(n) != r.next(n) {
			t.Fatalf("%v: got Has(%d) %v, Next(%d) %d, want %v, %d", r.ranges(), n, s.Has(n), n, s.Next(n), in, r.next(n))
		}
	}
	wellFormed(t, s)
}

// wellFormed checks that ranges decrease, do not touch, and are not empty, and
// that they have just the numbers that Has tells.
func wellFormed(t *testing.T, s *span.Set) {
	t.Helper()
	l := s.Ranges()
	for i, r := range l {
		if r.Lo > r.Hi || r.Lo < 0 || r.Hi > most || i > 0 && r.Hi > l[i-1].Lo-2 {
			t.Fatalf("ranges %v", l)
		}
		if !s.Has(r.Lo) || !s.Has(r.Hi) || s.Has(r.Lo-1) || s.Has(r.Hi+1) {
			t.Fatalf("the ends of %v are not told by Has", r)
		}
	}
}

// rows are all rows of so many numbers from base on, which fit into the room.
func rows(room, base, length int) []row {
	var l []row
	for bits := range 1 << length {
		r := row{room, base, make([]bool, length)}
		for i := range r.in {
			r.in[i] = bits>>i&1 == 1
		}
		if len(r.ranges()) <= room {
			l = append(l, r)
		}
	}
	return l
}

// P4.1, P4.2, P4.4, P4.5: every set of a few numbers at both ends of the
// numbers, with every addition and every cut.
func TestEveryStep(t *testing.T) {
	const length = 7
	for _, base := range []int{0, most + 1 - length} {
		for room := 1; room <= 4; room++ {
			for _, r := range rows(room, base, length) {
				for lo := base; lo < base+length; lo++ {
					for hi := base; hi < base+length; hi++ {
						s := r.build(t)
						after, want := r.add(lo, hi)
						add(t, s, lo, hi, want)
						matches(t, s, after)
					}
					s := r.build(t)
					cut(t, s, lo, api.OK)
					matches(t, s, r.cut(lo))
				}
			}
		}
	}
}

// P4.3: every two sets of a few numbers.
func TestEverySame(t *testing.T) {
	var l []row
	for room := 1; room <= 3; room++ {
		l = append(l, rows(room, 5, 5)...)
	}
	for _, a := range l {
		for _, b := range l {
			want := a.room == b.room && slices.Equal(a.in, b.in)
			if a.build(t).Same(b.build(t)) != want {
				t.Fatalf("Same of %v (room %d) and %v (room %d): got %v", a.ranges(), a.room, b.ranges(), b.room, !want)
			}
		}
	}
}

// P4.1 to P4.5: long runs of additions and cuts, in small and large rooms.
func TestRunsOfSteps(t *testing.T) {
	source := rand.New(rand.NewSource(7))
	for _, room := range []int{1, 2, 5, 40, 255, 256} {
		length := 4*room + 30
		for _, base := range []int{0, 1 << 40, most + 1 - length} {
			s, r := set(t, room), row{room, base, make([]bool, length)}
			for range 400 {
				s, r = step(t, source, s, r)
			}
			matches(t, s, r)
		}
	}
}

// step makes one step, now and then in a copy, and checks what is cheap to check.
func step(t *testing.T, source *rand.Rand, s *span.Set, r row) (*span.Set, row) {
	t.Helper()
	if source.Intn(4) == 0 {
		s = s.Copy()
	}
	at := r.base + source.Intn(len(r.in))
	if source.Intn(60) == 0 {
		cut(t, s, at, api.OK)
		r = r.cut(at)
	} else {
		hi := min(at+source.Intn(3), r.base+len(r.in)-1)
		after, want := r.add(at, hi)
		add(t, s, at, hi, want)
		r = after
	}
	stands(t, s, r.ranges()...)
	return s, r
}

// P4.6: neither the order of additions nor their repetition matters.
func TestOrderOfAdditions(t *testing.T) {
	source := rand.New(rand.NewSource(8))
	for range 200 {
		var l []api.Range
		for range 1 + source.Intn(40) {
			lo := source.Intn(200)
			l = append(l, api.Range{Lo: lo, Hi: lo + source.Intn(6)})
		}
		want := set(t, 256, l...)
		for range 4 {
			source.Shuffle(len(l), func(i, j int) { l[i], l[j] = l[j], l[i] })
			repeated := append(slices.Clone(l), l[:source.Intn(len(l)+1)]...)
			got := set(t, 256, repeated...)
			if !got.Same(want) {
				t.Fatalf("after %v: got %v, want %v", repeated, got.Ranges(), want.Ranges())
			}
		}
	}
}

// P4.6: numbers that were removed stay away, whatever is added above them,
// until they are added again.
func TestRemovedStayAway(t *testing.T) {
	source := rand.New(rand.NewSource(9))
	for range 100 {
		s := set(t, 256, api.Range{Lo: 0, Hi: 99}, api.Range{Lo: 120, Hi: 199})
		below := 1 + source.Intn(150)
		cut(t, s, below, api.OK)
		for range 10 {
			lo := below + source.Intn(100)
			add(t, s, lo, lo+source.Intn(5), api.OK)
		}
		for n := range below {
			if s.Has(n) {
				t.Fatalf("%d is back after Cut(%d): %v", n, below, s.Ranges())
			}
		}
		back := source.Intn(below)
		add(t, s, back, back, api.OK)
		for n := range below {
			if s.Has(n) != (n == back) {
				t.Fatalf("after Cut(%d) and Add(%d, %d): Has(%d) is %v", below, back, back, n, s.Has(n))
			}
		}
	}
}

// P4.7: adding what is there, and cutting below all numbers, change nothing,
// also in a set that is full.
func TestNothingChanges(t *testing.T) {
	const base, length = 3, 8
	for _, r := range rows(4, base, length) {
		r.room = max(1, len(r.ranges()))
		s := r.build(t)
		before := s.Copy()
		for _, one := range r.ranges() {
			for lo := one.Lo; lo <= one.Hi; lo++ {
				for hi := lo; hi <= one.Hi; hi++ {
					add(t, s, lo, hi, api.OK)
				}
			}
		}
		lowest := s.Min()
		if lowest < 0 {
			lowest = most
		}
		for _, below := range []int{0, 1, base - 1, base, lowest} {
			if below <= lowest {
				cut(t, s, below, api.OK)
			}
		}
		if !s.Same(before) {
			t.Fatalf("%v became %v", before.Ranges(), s.Ranges())
		}
	}
}

// P4.7: all that is missing between two ranges merges them, also in a full set
// and by single numbers in any order.
func TestMissingNumbersMerge(t *testing.T) {
	source := rand.New(rand.NewSource(10))
	for range 300 {
		lo, gap := source.Intn(50), 1+source.Intn(12)
		low := api.Range{Lo: lo, Hi: lo + source.Intn(5)}
		high := api.Range{Lo: low.Hi + gap + 1, Hi: low.Hi + gap + 1 + source.Intn(5)}
		merged := api.Range{Lo: low.Lo, Hi: high.Hi}
		atOnce := set(t, 2, high, low)
		add(t, atOnce, low.Hi+1, high.Lo-1, api.OK)
		stands(t, atOnce, merged)
		oneByOne := set(t, 2+gap, low, high)
		for i, n := range source.Perm(gap) {
			if oneByOne.Len() < 2 {
				t.Fatalf("%v and %v merged after %d of %d numbers", low, high, i, gap)
			}
			add(t, oneByOne, low.Hi+1+n, low.Hi+1+n, api.OK)
		}
		stands(t, oneByOne, merged)
	}
}
