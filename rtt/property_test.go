package rtt_test

import (
	"math/big"
	"math/rand"
	"testing"

	"sounder/api"
	"sounder/rtt"
)

// mean is the given share of a sum without bounds, rounded down.
func mean(share, times, a, b int) int {
	sum := new(big.Int).Mul(big.NewInt(int64(times)), big.NewInt(int64(a)))
	sum.Add(sum, big.NewInt(int64(b)))
	return int(sum.Quo(sum, big.NewInt(int64(share))).Int64())
}

// defined is the estimate after a sample, by the definition.
func defined(r api.Rtt, latest, delay, now int) api.Rtt {
	if r.First == -1 {
		return api.Rtt{Latest: latest, Min: latest, Smooth: latest, Var: latest / 2, First: now}
	}
	lowest := r.Min
	if latest < lowest {
		lowest = latest
	}
	bound := new(big.Int).Add(big.NewInt(int64(lowest)), big.NewInt(int64(delay)))
	adjusted := latest
	if bound.Cmp(big.NewInt(int64(latest))) <= 0 {
		adjusted = latest - delay
	}
	difference := adjusted - r.Smooth
	if difference < 0 {
		difference = -difference
	}
	return api.Rtt{Latest: latest, Min: lowest, Smooth: mean(8, 7, r.Smooth, adjusted), Var: mean(4, 3, r.Var, difference), First: r.First}
}

// validByDefinition tells whether an estimate is valid, field by field.
func validByDefinition(r api.Rtt) bool {
	if r.First == -1 {
		return r.Latest == 0 && r.Min == 0 && r.Smooth >= least && r.Smooth <= great && r.Var == r.Smooth/2
	}
	for _, field := range []int{r.Latest, r.Min, r.Smooth, r.Var, r.First} {
		if field < 0 || field > most {
			return false
		}
	}
	return r.Min <= r.Latest && r.Min <= r.Smooth
}

// grid tells of each estimate whose fields are some values.
func grid(values []int, tell func(r api.Rtt)) {
	for _, latest := range values {
		for _, lowest := range values {
			for _, smooth := range values {
				for _, variation := range values {
					for _, first := range values {
						tell(api.Rtt{Latest: latest, Min: lowest, Smooth: smooth, Var: variation, First: first})
					}
				}
			}
		}
	}
}

// P7.1, P7.3: Check and Greatest of every estimate with some fields.
func TestEveryEstimate(t *testing.T) {
	for _, values := range [][]int{
		{-2, -1, 0, 1, 2, 3, 4},
		{-1, 0, least / 2, least, least + 1, great / 2, great, great + 1},
		{-1, 0, 1, most - 1, most, most + 1},
	} {
		grid(values, func(r api.Rtt) {
			valid := validByDefinition(r)
			checks(t, r, valid)
			want := 0
			if valid {
				want = max(r.Latest, r.Smooth)
			}
			if got := rtt.Greatest(r); got != want {
				t.Errorf("Greatest(%+v): got %d, want %d", r, got, want)
			}
		})
	}
}

// P7.2: every sample with some parts, for every valid estimate with some fields.
func TestEverySample(t *testing.T) {
	for _, values := range [][]int{
		{0, 1, 2, 3, 7, 8, 9},
		{0, 5, least, 333000001, great},
		{0, 3, most/8 + 1, most/7 + 1, most/4 + 1, most/3 + 1, most/2 + 1, most - 3, most},
	} {
		grid(values, func(r api.Rtt) {
			// The time of the first sample is only kept: two are enough here.
			if !validByDefinition(r) || r.First > values[1] {
				return
			}
			for _, latest := range values {
				for _, delay := range values {
					samples(t, r, latest, delay, 6, defined(r, latest, delay, 6))
				}
			}
		})
	}
}

// anyTime is a time of some length, or one close to the greatest one.
func anyTime(source *rand.Rand) int {
	if source.Intn(20) == 0 {
		return most - source.Intn(20)
	}
	return source.Intn(1 << source.Intn(54))
}

// P7.2, P7.4: long series of samples, by the definition and by the property.
func TestSeries(t *testing.T) {
	source := rand.New(rand.NewSource(7))
	for range 3000 {
		r := start(t, least+source.Intn(great-least+1))
		s := series{least: most}
		bound := 1 + anyTime(source)
		for range 30 {
			latest, delay, now := min(anyTime(source), bound), anyTime(source), anyTime(source)
			want := defined(r, latest, delay, now)
			samples(t, r, latest, delay, now, want)
			r = want
			s.add(latest, now)
			s.holds(t, r)
		}
	}
}

// series is what P7.4 says of samples that were taken.
type series struct{ count, least, greatest, last, first int }

func (s *series) add(latest, now int) {
	if s.count == 0 {
		s.first = now
	}
	s.count++
	s.least = min(s.least, latest)
	s.greatest = max(s.greatest, latest)
	s.last = latest
}

func (s *series) holds(t *testing.T, r api.Rtt) {
	t.Helper()
	if r.Min != s.least || r.First != s.first || r.Latest != s.last {
		t.Errorf("after %+v: got %+v", *s, r)
	}
	if r.Smooth < r.Min || r.Smooth > s.greatest || r.Var < 0 || r.Var > s.greatest {
		t.Errorf("after %+v: Smooth or Var of %+v is out of bounds", *s, r)
	}
	checks(t, r, true)
}

// P7.4: every short series of some samples.
func TestShortSeries(t *testing.T) {
	times, delays := []int{0, 1, 2, 5, 9, most}, []int{0, 1, 4, most}
	var take func(r api.Rtt, s series)
	take = func(r api.Rtt, s series) {
		if s.count == 3 {
			return
		}
		for _, latest := range times {
			for _, delay := range delays {
				after, grown := next(t, r, latest, delay, 10-s.count), s
				grown.add(latest, 10-s.count)
				grown.holds(t, after)
				take(after, grown)
			}
		}
	}
	for _, first := range []int{least, great} {
		take(start(t, first), series{least: most})
	}
}

// P7.5: equal times: Smooth is that time, and a quarter of Var goes each time.
func TestEqualTimes(t *testing.T) {
	for _, latest := range []int{0, 1, 2, 3, 4, 5, 7, 8, 100, 101, 333000000, great, most/8 + 1, most/7 + 1, most - 1, most} {
		r := next(t, start(t, 333000000), latest, 0, 3)
		variation := latest / 2
		for now := range 200 {
			if r != (api.Rtt{Latest: latest, Min: latest, Smooth: latest, Var: variation, First: 3}) {
				t.Fatalf("sample %d of %d: got %+v, want Var %d", now, latest, r, variation)
			}
			r = next(t, r, latest, 0, now)
			variation = mean(4, 3, variation, 0)
		}
		if variation != 0 {
			t.Errorf("Var of %d ends at %d", latest, variation)
		}
	}
}

// P7.6: a series that is nowhere greater is smoothed to nothing greater.
func TestMonotone(t *testing.T) {
	source := rand.New(rand.NewSource(8))
	for run := range 3000 {
		low, high := start(t, 333000000), start(t, 333000000)
		for range 30 {
			a, b := anyTime(source), anyTime(source)
			if run%2 == 0 { // close to each other
				b = min(a+source.Intn(9), most)
			}
			low, high = next(t, low, min(a, b), 0, 1), next(t, high, max(a, b), 0, 1)
			if low.Smooth > high.Smooth {
				t.Fatalf("Smooth is %d below %d", low.Smooth, high.Smooth)
			}
		}
	}
}

// P7.6: every pair of short series of some times.
func TestMonotoneShort(t *testing.T) {
	times := []int{0, 1, 7, 8, 9, 16, most - 8, most}
	var take func(low, high api.Rtt, left int)
	take = func(low, high api.Rtt, left int) {
		if low.Smooth > high.Smooth {
			t.Fatalf("Smooth of %+v is above that of %+v", low, high)
		}
		if left == 0 {
			return
		}
		for i, b := range times {
			for _, a := range times[:i+1] {
				take(next(t, low, a, 0, 1), next(t, high, b, 0, 1), left-1)
			}
		}
	}
	take(start(t, least), start(t, least), 3)
}
