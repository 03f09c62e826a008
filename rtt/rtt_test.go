package rtt_test

import (
	"math"
	"testing"

	"sounder/api"
	"sounder/rtt"
)

const (
	most  = api.MaxTime
	least = 1000000
	great = 60000000000
)

// noTimes are ints that are not times; Never is one of them.
func noTimes() []int {
	return []int{-1, -2, -256, math.MinInt, math.MinInt + 1, most + 1, most + 2, 1 << 62, math.MaxInt - 1, math.MaxInt}
}

// fresh is the new estimate with a smoothed time.
func fresh(smooth int) api.Rtt {
	return api.Rtt{Smooth: smooth, Var: smooth / 2, First: -1}
}

// start is that estimate by New.
func start(t *testing.T, first int) api.Rtt {
	t.Helper()
	r, e := rtt.New(first)
	if e != api.OK {
		t.Fatalf("New(%d): error %d", first, e)
	}
	return r
}

// next is the estimate after a sample that must be possible.
func next(t *testing.T, r api.Rtt, latest, delay, now int) api.Rtt {
	t.Helper()
	after, e := rtt.Sample(r, latest, delay, now)
	if e != api.OK {
		t.Fatalf("Sample(%+v, %d, %d, %d): error %d", r, latest, delay, now, e)
	}
	return after
}

// samples checks the estimate after a sample.
func samples(t *testing.T, r api.Rtt, latest, delay, now int, want api.Rtt) {
	t.Helper()
	if got := next(t, r, latest, delay, now); got != want {
		t.Errorf("Sample(%+v, %d, %d, %d): got %+v, want %+v", r, latest, delay, now, got, want)
	}
}

// refuses checks that a sample is refused, and that there is nothing beside the error.
func refuses(t *testing.T, r api.Rtt, latest, delay, now int, want api.Errno) {
	t.Helper()
	if got, e := rtt.Sample(r, latest, delay, now); got != (api.Rtt{}) || e != want {
		t.Errorf("Sample(%+v, %d, %d, %d): got %+v, error %d, want error %d", r, latest, delay, now, got, e, want)
	}
}

// The chapter's examples.
func TestExamples(t *testing.T) {
	r := start(t, 333000000)
	if r != (api.Rtt{Smooth: 333000000, Var: 166500000, First: -1}) {
		t.Errorf("New(333000000): got %+v", r)
	}
	for _, c := range []struct {
		latest, delay, now int
		want               api.Rtt
	}{
		{100, 40, 7, api.Rtt{Latest: 100, Min: 100, Smooth: 100, Var: 50, First: 7}},
		{180, 40, 9, api.Rtt{Latest: 180, Min: 100, Smooth: 105, Var: 47, First: 7}},
		{120, 40, 11, api.Rtt{Latest: 120, Min: 100, Smooth: 106, Var: 39, First: 7}},
	} {
		samples(t, r, c.latest, c.delay, c.now, c.want)
		r = c.want
	}
	if _, e := rtt.New(999999); e != api.ErrRange {
		t.Errorf("New(999999): error %d", e)
	}
	refuses(t, start(t, 333000000), -1, 0, 0, api.ErrRange)
	if rtt.Held(5, 3, true) != 3 || rtt.Held(5, 3, false) != 5 {
		t.Errorf("Held: got %d, %d", rtt.Held(5, 3, true), rtt.Held(5, 3, false))
	}
}

// P7.1: the new estimates, at the edges, and with even and odd times.
func TestNew(t *testing.T) {
	for _, first := range []int{least, least + 1, least + 2, 1234567, 333000000, 1 << 32, 1<<32 + 1, great - 1, great} {
		if r, e := rtt.New(first); r != fresh(first) || e != api.OK {
			t.Errorf("New(%d): got %+v, error %d", first, r, e)
		}
	}
	for _, first := range append(noTimes(), 0, 1, 333000, least-1, great+1, great+2, 1<<40, most-1, most) {
		if r, e := rtt.New(first); r != (api.Rtt{}) || e != api.ErrRange {
			t.Errorf("New(%d): got %+v, error %d", first, r, e)
		}
	}
}

// checks checks what Check says of an estimate.
func checks(t *testing.T, r api.Rtt, valid bool) {
	t.Helper()
	want := api.ErrArg
	if valid {
		want = api.OK
	}
	if e := rtt.Check(r); e != want {
		t.Errorf("Check(%+v): error %d, want %d", r, e, want)
	}
}

// P7.1: which estimates without a sample are valid.
func TestCheckNew(t *testing.T) {
	for _, smooth := range []int{least, least + 1, 333000000, 333000001, great - 1, great} {
		checks(t, fresh(smooth), true)
		for _, wrong := range []api.Rtt{{Latest: 1}, {Min: 1}, {Latest: 1, Min: 1}, {Latest: -1}, {Min: -1}, {Var: 1}, {Var: -1}, {Var: -smooth / 2}, {First: -1}, {First: math.MinInt + 1}} {
			r := fresh(smooth)
			r.Latest += wrong.Latest
			r.Min += wrong.Min
			r.Var += wrong.Var
			r.First += wrong.First
			checks(t, r, false)
		}
		r := fresh(smooth)
		r.Latest, r.Min = smooth, smooth
		checks(t, r, false)
	}
	for _, smooth := range append(noTimes(), 0, 1, 2, least-2, least-1, great+1, great+2, most-1, most) {
		checks(t, fresh(smooth), false)
	}
	checks(t, api.Rtt{First: -1}, false)
}

// P7.1: which estimates with samples are valid.
func TestCheckMeasured(t *testing.T) {
	for _, r := range []api.Rtt{
		{},
		{Latest: 1},
		{Smooth: 1},
		{Var: 1},
		{First: 1},
		{Latest: 5, Min: 5, Smooth: 5},
		{Latest: 6, Min: 5, Smooth: 5},
		{Latest: 5, Min: 5, Smooth: 6},
		{Latest: 9, Min: 1, Smooth: 5, Var: 7, First: 3},
		{Latest: 5, Min: 1, Smooth: 9, Var: most, First: most},
		{Latest: most, Min: most, Smooth: most, Var: most, First: most},
		{Latest: most, Min: 0, Smooth: 0, Var: 0, First: 0},
		{Latest: 100, Min: 100, Smooth: 2000000, Var: 300000},
		{Smooth: least, Var: least / 2, First: 0},
		{Smooth: great + 1, Var: 3, First: 0},
	} {
		checks(t, r, true)
	}
	for _, r := range []api.Rtt{
		{Min: 1},
		{Latest: 5, Min: 6, Smooth: 6},
		{Latest: 6, Min: 6, Smooth: 5},
		{Latest: 5, Min: 6, Smooth: 5},
		{Latest: most - 1, Min: most, Smooth: most},
		{Latest: most, Min: most, Smooth: most - 1},
		{Latest: 5, Min: 5, Smooth: 5, Var: 2, First: -1},
	} {
		checks(t, r, false)
	}
}

// wrongEstimates are estimates that are not valid, by one field each.
func wrongEstimates() []api.Rtt {
	var l []api.Rtt
	for _, wrong := range noTimes() {
		for field := range 5 {
			r := api.Rtt{Latest: 5, Min: 3, Smooth: 4, Var: 2, First: 9}
			*[]*int{&r.Latest, &r.Min, &r.Smooth, &r.Var, &r.First}[field] = wrong
			l = append(l, r)
		}
	}
	return append(l, api.Rtt{First: -1}, api.Rtt{Min: 1}, api.Rtt{Latest: 1, Min: 2, Smooth: 2}, api.Rtt{Latest: 2, Min: 2, Smooth: 1}, fresh(least-1), fresh(great+1))
}

// P7.1, P7.2, P7.3: an estimate with a field that is wrong is refused
// everywhere; that error comes before those of the sample.
func TestWrongEstimates(t *testing.T) {
	for _, r := range wrongEstimates() {
		checks(t, r, false)
		refuses(t, r, 100, 0, 7, api.ErrArg)
		refuses(t, r, 0, 0, 0, api.ErrArg)
		refuses(t, r, -1, -1, -1, api.ErrArg)
		refuses(t, r, 100, 0, most+1, api.ErrArg)
		if got := rtt.Greatest(r); got != 0 {
			t.Errorf("Greatest(%+v): got %d", r, got)
		}
	}
}

// P7.2: a sample with a part that is not a time is refused, for both kinds of
// estimates; also the first one's delay, which does not count.
func TestWrongSamples(t *testing.T) {
	for _, r := range []api.Rtt{fresh(333000000), {}, {Latest: 100, Min: 100, Smooth: 100, Var: 50, First: 7}} {
		for _, wrong := range noTimes() {
			refuses(t, r, wrong, 0, 0, api.ErrRange)
			refuses(t, r, 100, wrong, 0, api.ErrRange)
			refuses(t, r, 100, 0, wrong, api.ErrRange)
			refuses(t, r, wrong, wrong, wrong, api.ErrRange)
		}
	}
}

// P7.2: the first sample replaces what was assumed, whatever the delay is.
func TestFirstSample(t *testing.T) {
	for _, first := range []int{least, 333000000, great} {
		for _, latest := range []int{0, 1, 2, 3, 99, 100, least, great, most - 1, most} {
			for _, delay := range []int{0, 1, 40, 100, great, most} {
				for _, now := range []int{0, 1, 7, latest, most} {
					samples(t, start(t, first), latest, delay, now, api.Rtt{Latest: latest, Min: latest, Smooth: latest, Var: latest / 2, First: now})
				}
			}
		}
	}
}

// P7.2: when a delay is subtracted: down to the least time, and no further.
func TestDelay(t *testing.T) {
	r := api.Rtt{Latest: 300, Min: 100, Smooth: 200, Var: 40, First: 7}
	after := func(latest, min, smooth, variation int) api.Rtt {
		return api.Rtt{Latest: latest, Min: min, Smooth: smooth, Var: variation, First: 7}
	}
	samples(t, r, 200, 0, 9, after(200, 100, 200, 30))
	samples(t, r, 200, 99, 9, after(200, 100, 187, 54))
	samples(t, r, 200, 100, 9, after(200, 100, 187, 55)) // just down to the least time
	samples(t, r, 200, 101, 9, after(200, 100, 200, 30))
	samples(t, r, 200, 200, 9, after(200, 100, 200, 30))
	samples(t, r, 200, most, 9, after(200, 100, 200, 30))
	samples(t, r, 100, 0, 9, after(100, 100, 187, 55))
	samples(t, r, 100, 1, 9, after(100, 100, 187, 55))
	// A time that is itself the least one keeps its delay.
	samples(t, r, 60, 0, 9, after(60, 60, 182, 65))
	samples(t, r, 60, 20, 9, after(60, 60, 182, 65))
	samples(t, r, 0, 0, 9, after(0, 0, 175, 80))
	samples(t, r, 0, 5, 9, after(0, 0, 175, 80))
	// The least time may be 0: then all of it may be a delay.
	r.Min = 0
	samples(t, r, 50, 50, 9, after(50, 0, 175, 80))
	samples(t, r, 50, 51, 9, after(50, 0, 181, 67))
}

// P7.2: both means are rounded down, in both directions.
func TestRounding(t *testing.T) {
	r := api.Rtt{Latest: 100, Min: 0, Smooth: 100, Var: 0, First: 0}
	for _, c := range []struct{ latest, smooth, variation int }{
		{100, 100, 0}, {101, 100, 0}, {103, 100, 0}, {104, 100, 1}, {107, 100, 1}, {108, 101, 2}, {115, 101, 3}, {116, 102, 4},
		{99, 99, 0}, {97, 99, 0}, {96, 99, 1}, {93, 99, 1}, {92, 99, 2}, {91, 98, 2},
	} {
		samples(t, r, c.latest, 0, 5, api.Rtt{Latest: c.latest, Smooth: c.smooth, Var: c.variation})
	}
	for variation, want := range []int{0, 0, 1, 2, 3, 3, 4, 5, 6} {
		r.Var = variation
		samples(t, r, 100, 0, 5, api.Rtt{Latest: 100, Smooth: 100, Var: want})
	}
}

// P7.2: an estimate that is no new one keeps First, even if it is 0, or later
// than now, and even where all fields are 0.
func TestFirstStays(t *testing.T) {
	for _, first := range []int{0, 1, 9, most} {
		for _, now := range []int{0, 1, 5, 10, most} {
			r := api.Rtt{Latest: 8, Min: 8, Smooth: 8, First: first}
			samples(t, r, 8, 0, now, r)
			samples(t, api.Rtt{First: first}, 8, 0, now, api.Rtt{Latest: 8, Smooth: 1, Var: 2, First: first})
		}
	}
}

// P7.2: sums that are beyond the greatest time are not cut off.
func TestGreatTimes(t *testing.T) {
	r := api.Rtt{Latest: most, Min: most, Smooth: most, Var: most, First: most}
	samples(t, r, most, 0, most, api.Rtt{Latest: most, Min: most, Smooth: most, Var: 3*(1<<51) - 1, First: most})
	samples(t, r, most, most, 0, api.Rtt{Latest: most, Min: most, Smooth: most, Var: 3*(1<<51) - 1, First: most})
	samples(t, r, 0, 0, 0, api.Rtt{Smooth: 7*(1<<50) - 1, Var: most, First: most})
	samples(t, r, 0, most, 0, api.Rtt{Smooth: 7*(1<<50) - 1, Var: most, First: most})
	r.Min = 5
	samples(t, r, most, most, 0, api.Rtt{Latest: most, Min: 5, Smooth: most, Var: 3*(1<<51) - 1, First: most})
	samples(t, r, most, most-4, 0, api.Rtt{Latest: most, Min: 5, Smooth: most, Var: 3*(1<<51) - 1, First: most})
	samples(t, r, most, most-5, 0, api.Rtt{Latest: most, Min: 5, Smooth: 7*(1<<50) - 1, Var: most - 2, First: most})
	samples(t, api.Rtt{}, most, 0, 0, api.Rtt{Latest: most, Smooth: 1<<50 - 1, Var: 1<<51 - 1})
}

// P7.3: how much of a delay counts.
func TestHeld(t *testing.T) {
	for _, c := range []struct{ delay, most, known, unknown int }{
		{0, 0, 0, 0},
		{5, 3, 3, 5},
		{3, 5, 3, 3},
		{4, 4, 4, 4},
		{5, 0, 0, 5},
		{0, 5, 0, 0},
		{-1, 5, 0, 0},
		{-5, -3, 0, 0},
		{5, -1, 0, 5},
		{5, math.MinInt, 0, 5},
		{math.MinInt, math.MaxInt, 0, 0},
		{25000000, 26000000, 25000000, 25000000},
		{5, most, 5, 5},
		{5, most + 1, 5, 5},
		{most - 1, most, most - 1, most - 1},
		{most, most, most, most},
		{most + 1, most, most, most},
		{most + 1, most + 1, most, most},
		{most + 2, most - 1, most - 1, most},
		{math.MaxInt, math.MaxInt, most, most},
		{math.MaxInt, 7, 7, most},
	} {
		known, unknown := rtt.Held(c.delay, c.most, true), rtt.Held(c.delay, c.most, false)
		if known != c.known || unknown != c.unknown {
			t.Errorf("Held(%d, %d, ..): got %d if known, %d if not, want %d, %d", c.delay, c.most, known, unknown, c.known, c.unknown)
		}
	}
}

// P7.3: the greater one of two times, also before there is a sample.
func TestGreatest(t *testing.T) {
	for _, c := range []struct {
		r    api.Rtt
		want int
	}{
		{api.Rtt{}, 0},
		{api.Rtt{Latest: 7, Smooth: 5}, 7},
		{api.Rtt{Latest: 5, Smooth: 7}, 7},
		{api.Rtt{Latest: 6, Min: 6, Smooth: 6}, 6},
		{api.Rtt{Latest: 5, Min: 3, Smooth: 4, Var: 99, First: 98}, 5},
		{api.Rtt{Latest: most, Smooth: most - 1}, most},
		{api.Rtt{Latest: most - 1, Smooth: most}, most},
		{fresh(least), least},
		{fresh(333000001), 333000001},
		{fresh(great), great},
	} {
		if got := rtt.Greatest(c.r); got != c.want {
			t.Errorf("Greatest(%+v): got %d, want %d", c.r, got, c.want)
		}
	}
}
