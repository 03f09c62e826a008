package pto_test

import (
	"math"
	"testing"

	"sounder/api"
	"sounder/pto"
	"sounder/rtt"
)

const (
	most  = api.MaxTime
	milli = 1000000
	great = 60000000000
)

// noTimes are ints that are not times; Never is one of them.
func noTimes() []int {
	return []int{-1, -2, -256, math.MinInt, math.MinInt + 1, most + 1, most + 2, 1 << 62, math.MaxInt - 1, math.MaxInt}
}

// noSpaces are ints that are not spaces.
func noSpaces() []int { return append(noTimes(), 3, 4, 256, 1<<32, most) }

// clamped is as which time or count an argument counts, as chapter 8 says.
func clamped(n int) int {
	if n < 0 {
		return 0
	}
	if n > most {
		return most
	}
	return n
}

// fresh is the new estimate with a smoothed time.
func fresh(t *testing.T, smooth int) api.Rtt {
	t.Helper()
	r, e := rtt.New(smooth)
	if e != api.OK {
		t.Fatalf("New(%d): error %d", smooth, e)
	}
	return r
}

// measured is an estimate with a smoothed time and how much it varies.
func measured(smooth, variation int) api.Rtt {
	return api.Rtt{Smooth: smooth, Var: variation}
}

// bases checks a base.
func bases(t *testing.T, r api.Rtt, space, delay, want int) {
	t.Helper()
	if got := pto.Base(r, space, delay); got != want {
		t.Errorf("Base(%+v, %d, %d): got %d, want %d", r, space, delay, got, want)
	}
}

// backs checks a base with backoff.
func backs(t *testing.T, base, count, bound, want int) {
	t.Helper()
	if got := pto.Backed(base, count, bound); got != want {
		t.Errorf("Backed(%d, %d, %d): got %d, want %d", base, count, bound, got, want)
	}
}

// ends checks when a wait is over.
func ends(t *testing.T, last, wait, want int) {
	t.Helper()
	if got := pto.Due(last, wait); got != want {
		t.Errorf("Due(%d, %d): got %d, want %d", last, wait, got, want)
	}
}

// persists checks how long nothing may come through.
func persists(t *testing.T, r api.Rtt, delay, want int) {
	t.Helper()
	if got := pto.Persist(r, delay); got != want {
		t.Errorf("Persist(%+v, %d): got %d, want %d", r, delay, got, want)
	}
}

// The chapter's examples.
func TestExamples(t *testing.T) {
	r := api.Rtt{Latest: 100, Min: 100, Smooth: 2000000, Var: 300000}
	n := fresh(t, 333000000)
	bases(t, r, 0, 5000000, 3200000)
	bases(t, r, 2, 5000000, 8200000)
	bases(t, n, 0, 0, 999000000)
	bases(t, n, 3, 0, 0)
	backs(t, 3, 2, 10, 12)
	backs(t, 3, 9, 4, 48)
	backs(t, 1, 60, 60, 1<<53-1)
	backs(t, -1, 3, 3, 0)
	ends(t, 5, 7, 12)
	ends(t, -1, 7, -1)
	ends(t, 1<<53-1, 1, 1<<53-1)
	persists(t, r, 5000000, 24600000)
}

// P8.1: four times Var counts from a Milli on; before that, a Milli does.
func TestBaseVariation(t *testing.T) {
	for _, c := range []struct{ smooth, variation, want int }{
		{0, 0, milli},
		{0, 1, milli},
		{7, 249999, 7 + milli},
		{7, 250000, 7 + milli},
		{7, 250001, 7 + milli + 4},
		{7, milli, 7 + 4*milli},
		{milli, 0, 2 * milli},
		{2000000, 300000, 3200000},
		{1 << 40, 1 << 32, 1<<40 + 1<<34},
		{0, most / 4, most - 3},
		{3, most / 4, most},
	} {
		for space := range 3 {
			bases(t, measured(c.smooth, c.variation), space, 0, c.want)
		}
	}
}

// P8.1: the other fields of an estimate do not count.
func TestBaseOtherFields(t *testing.T) {
	for _, r := range []api.Rtt{
		{Smooth: 2000000, Var: 300000},
		{Latest: most, Smooth: 2000000, Var: 300000},
		{Latest: most, Min: 2000000, Smooth: 2000000, Var: 300000, First: 8},
		{Latest: 2000000, Min: 2000000, Smooth: 2000000, Var: 300000, First: most},
	} {
		bases(t, r, api.SpaceInitial, 0, 3200000)
		bases(t, r, api.SpaceApp, 5, 3200005)
	}
}

// P8.1: the delay of acknowledgements counts in the last space only, as a time.
func TestBaseDelay(t *testing.T) {
	r := measured(2000000, 300000)
	for _, delay := range append(noTimes(), 0, 1, 25*milli, most-3200001, most-3200000, most-3199999, most-1, most) {
		bases(t, r, api.SpaceInitial, delay, 3200000)
		bases(t, r, api.SpaceHand, delay, 3200000)
		bases(t, r, api.SpaceApp, delay, min(3200000+clamped(delay), most))
	}
}

// P8.1: a base that would be too great is the greatest time.
func TestBaseGreatest(t *testing.T) {
	for _, r := range []api.Rtt{
		measured(most, 0),
		measured(most, most),
		measured(0, most),
		measured(0, most/4+1),
		measured(4, most/4),
		measured(most-milli, 0),
		measured(most-milli+1, 0),
		measured(most-milli, milli/4+1),
		{Latest: most, Min: most, Smooth: most, Var: most, First: most},
	} {
		for space := range 3 {
			for _, delay := range []int{-1, 0, 1, most, math.MaxInt} {
				bases(t, r, space, delay, most)
			}
		}
		persists(t, r, 0, most)
		persists(t, r, most, most)
	}
	bases(t, measured(most-milli-1, 0), 0, 0, most-1)
	bases(t, measured(most-milli-1, 0), 2, 1, most)
	bases(t, measured(most-milli-1, 0), 2, 2, most)
}

// P8.1, P8.2: there is no base in a space that does not exist.
func TestNoSpaces(t *testing.T) {
	for _, space := range noSpaces() {
		for _, r := range []api.Rtt{{}, measured(2000000, 300000), fresh(t, 333000000), measured(most, most)} {
			for _, delay := range []int{-1, 0, 5000000, most} {
				bases(t, r, space, delay, 0)
			}
		}
	}
}

// wrongEstimates are estimates that are not valid.
func wrongEstimates() []api.Rtt {
	l := []api.Rtt{
		{First: -1},
		{Min: 1},
		{Latest: 1, Min: 2, Smooth: 2},
		{Latest: 2, Min: 2, Smooth: 1},
		{Smooth: milli - 1, Var: milli/2 - 1, First: -1},
		{Smooth: great + 1, Var: great / 2, First: -1},
		{Smooth: milli, Var: milli/2 + 1, First: -1},
		{Latest: 1, Smooth: milli, Var: milli / 2, First: -1},
	}
	for _, wrong := range noTimes() {
		for field := range 5 {
			r := api.Rtt{Latest: 5, Min: 3, Smooth: 4, Var: 2, First: 9}
			*[]*int{&r.Latest, &r.Min, &r.Smooth, &r.Var, &r.First}[field] = wrong
			l = append(l, r)
		}
	}
	return l
}

// P8.1, P8.2: an estimate that is not valid has no base, and nothing persists.
func TestWrongEstimates(t *testing.T) {
	for _, r := range wrongEstimates() {
		for _, delay := range []int{-1, 0, 5000000, most, math.MaxInt} {
			for space := -1; space <= 3; space++ {
				bases(t, r, space, delay, 0)
			}
			persists(t, r, delay, 0)
		}
	}
}

// P8.1: doubled as often as the count says, up to the maximum.
func TestBacked(t *testing.T) {
	for _, c := range []struct{ base, count, bound, want int }{
		{7, 0, 0, 7},
		{7, 0, 5, 7},
		{7, 5, 0, 7},
		{7, 1, 1, 14},
		{7, 1, 2, 14},
		{7, 2, 1, 14},
		{7, 3, 3, 56},
		{7, 4, 3, 56},
		{7, 3, 4, 56},
		{999000000, 1, 16, 1998000000},
		{999000000, 2, 16, 3996000000},
		{0, 0, 0, 0},
		{0, 9, 9, 0},
		{1, 52, 52, 1 << 52},
		{1, 53, 52, 1 << 52},
		{1, 52, 53, 1 << 52},
		{1, 53, 53, most},
		{1, 54, 54, most},
		{1, 63, 63, most},
		{1, 64, 64, most},
		{1, 65, 65, most},
		{most / 2, 1, 1, most - 1},
		{most/2 + 1, 1, 1, most},
		{most - 1, 0, 0, most - 1},
		{most - 1, 1, 1, most},
		{most, 0, 0, most},
		{most, 1, 1, most},
	} {
		backs(t, c.base, c.count, c.bound, c.want)
	}
}

// P8.1: numbers that are less than 0 count as 0, bases that are too great as the
// greatest time, whatever stands beside them.
func TestBackedWrong(t *testing.T) {
	for _, wrong := range noTimes() {
		for _, doublings := range []int{-1, 0, 1, 60} {
			backs(t, wrong, doublings, doublings, clamped(wrong))
		}
		if wrong > 0 {
			continue
		}
		backs(t, 7, wrong, 3, 7)
		backs(t, 7, 3, wrong, 7)
		backs(t, 7, wrong, wrong, 7)
		backs(t, 7, wrong, math.MaxInt, 7)
		backs(t, 7, math.MaxInt, wrong, 7)
		backs(t, most, wrong, 3, most)
	}
}

// P8.1: the greatest counts there are come to an end, for 0 as well.
func TestBackedGreatestCounts(t *testing.T) {
	for _, count := range []int{1 << 32, most - 1, most, most + 1, 1 << 62, math.MaxInt - 1, math.MaxInt} {
		for _, bound := range []int{1 << 40, most, math.MaxInt} {
			for _, base := range []int{0, -1, math.MinInt} {
				backs(t, base, count, bound, 0)
			}
			for _, base := range []int{1, 3, most - 1, most, math.MaxInt} {
				backs(t, base, count, bound, most)
			}
		}
		backs(t, 3, count, 2, 12)
		backs(t, 3, 2, count, 12)
	}
}

// P8.2: a wait that begins at a time; it counts as a time.
func TestDue(t *testing.T) {
	for _, last := range []int{0, 1, 5, 1 << 32, most / 2, most - 7, most - 6, most - 1, most} {
		for _, wait := range append(noTimes(), 0, 1, 6, 7, 8, most/2, most/2+1, most-1, most) {
			ends(t, last, wait, min(last+clamped(wait), most))
		}
	}
}

// P8.2: a wait that begins never, or at what is not a time, is never over.
func TestDueNever(t *testing.T) {
	for _, last := range noTimes() {
		for _, wait := range append(noTimes(), 0, 1, 7, most-1, most) {
			ends(t, last, wait, -1)
		}
	}
}

// P8.2: three times the base of the last space, with the delay as a time.
func TestPersist(t *testing.T) {
	for _, c := range []struct {
		r           api.Rtt
		delay, want int
	}{
		{api.Rtt{}, 0, 3 * milli},
		{api.Rtt{}, 1, 3*milli + 3},
		{measured(7, 250001), 0, 3*milli + 33},
		{fresh(t, 333000000), 0, 2997000000},
		{fresh(t, 333000000), 25 * milli, 3072000000},
		{fresh(t, milli), 0, 9 * milli},
		{measured(most/3-milli, 0), 0, most / 3 * 3},
		{measured(most/3-milli-5, 0), 4, most/3*3 - 3},
		{measured(most/3-milli-5, 0), 5, most / 3 * 3},
		{measured(most/3-milli-5, 0), 6, most},
		{measured(most/3-milli+1, 0), 0, most},
		{measured(most/2, 0), 0, most},
	} {
		persists(t, c.r, c.delay, c.want)
	}
	for _, delay := range noTimes() {
		want := 9600000
		if delay > 0 {
			want = most
		}
		persists(t, measured(2000000, 300000), delay, want)
	}
}
