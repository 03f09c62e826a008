package pto_test

import (
	"math"
	"math/big"
	"math/rand"
	"testing"

	"sounder/api"
	"sounder/pto"
	"sounder/rtt"
)

// number is an int without bounds, clamped as an argument is.
func number(n int) *big.Int { return big.NewInt(int64(clamped(n))) }

// cut is a result as the chapter bounds it.
func cut(n *big.Int) int {
	if n.Cmp(big.NewInt(most)) > 0 {
		return most
	}
	return int(n.Int64())
}

// exactBase is the base by the definition, without bounds.
func exactBase(r api.Rtt, space, delay int) *big.Int {
	if rtt.Check(r) != api.OK || space < 0 || space > 2 {
		return new(big.Int)
	}
	part := new(big.Int).Mul(big.NewInt(4), number(r.Var))
	if part.Cmp(big.NewInt(milli)) < 0 {
		part.SetInt64(milli)
	}
	part.Add(part, number(r.Smooth))
	if space == 2 {
		part.Add(part, number(delay))
	}
	return part
}

// exactBacked is the base with backoff by the definition. More than 60 doublings
// make of each base other than 0 more than the greatest time.
func exactBacked(base, count, bound int) *big.Int {
	doublings := min(clamped(count), clamped(bound), 60)
	return new(big.Int).Lsh(number(base), uint(doublings))
}

// anyTime is a time of some length, or one close to the greatest one.
func anyTime(source *rand.Rand) int {
	if source.Intn(20) == 0 {
		return most - source.Intn(20)
	}
	return source.Intn(1 << source.Intn(54))
}

// anyInt is a time, or what is close to one, or not one at all.
func anyInt(source *rand.Rand) int {
	switch source.Intn(12) {
	case 0:
		return -1 - source.Intn(3)
	case 1:
		return most + 1 + source.Intn(3)
	case 2:
		return math.MaxInt - source.Intn(3)
	}
	return anyTime(source)
}

// anyEstimate is one that is measured, or a new one; some are not valid.
func anyEstimate(source *rand.Rand) api.Rtt {
	if source.Intn(4) == 0 {
		smooth := milli + source.Intn(great-milli+1)
		return api.Rtt{Smooth: smooth, Var: smooth/2 + source.Intn(3)/2, First: -1}
	}
	lowest := anyTime(source)
	return api.Rtt{
		Latest: min(lowest+source.Intn(100), most) - source.Intn(20)/19,
		Min:    lowest,
		Smooth: min(lowest+anyTime(source), most),
		Var:    anyInt(source),
		First:  anyTime(source),
	}
}

// P8.1, P8.2: Base and Persist, by the definition, for many estimates.
func TestBasesByDefinition(t *testing.T) {
	source := rand.New(rand.NewSource(81))
	valid := 0
	for range 30000 {
		r, delay := anyEstimate(source), anyInt(source)
		if rtt.Check(r) == api.OK {
			valid++
		}
		for space := -1; space <= 3; space++ {
			bases(t, r, space, delay, cut(exactBase(r, space, delay)))
		}
		persists(t, r, delay, cut(new(big.Int).Mul(big.NewInt(3), exactBase(r, 2, delay))))
	}
	if valid < 10000 || valid > 29000 {
		t.Errorf("%d estimates are valid: too many of one kind", valid)
	}
}

// P8.1: Base by the definition, for every estimate and delay on a grid of the edges.
func TestBaseGrid(t *testing.T) {
	values := []int{-1, 0, 1, milli/4 - 1, milli / 4, milli/4 + 1, milli, most/4 - milli, most / 4, most/4 + 1, most - milli, most - milli + 1, most - 1, most, most + 1}
	for _, smooth := range values {
		for _, variation := range values {
			for _, delay := range values {
				for space := range 3 {
					r := measured(smooth, variation)
					bases(t, r, space, delay, cut(exactBase(r, space, delay)))
				}
			}
		}
	}
}

// backoffBases are bases in rising order, by what they count as.
func backoffBases() []int {
	l := []int{math.MinInt, -1, 0, 1, 2, 3, 5, 1000, milli, 999000000, most / 4, most/4 + 1, most / 2, most/2 + 1, most - 1, most, most + 1, math.MaxInt}
	return l
}

// backoffCounts are counts in rising order.
func backoffCounts() []int {
	l := []int{math.MinInt, -2, -1}
	for count := range 67 {
		l = append(l, count)
	}
	return append(l, 1000, 1<<32, most, most+1, math.MaxInt)
}

// P8.1: Backed by the definition, for all counts and maxima that may differ.
func TestBackedByDefinition(t *testing.T) {
	for _, base := range backoffBases() {
		for _, count := range backoffCounts() {
			for _, bound := range backoffCounts() {
				backs(t, base, count, bound, cut(exactBacked(base, count, bound)))
			}
		}
	}
}

// P8.3: at least a Milli more than Smooth, in each space, unless that is too great.
func TestBaseIsMoreThanSmooth(t *testing.T) {
	source := rand.New(rand.NewSource(83))
	for range 20000 {
		r := anyEstimate(source)
		if rtt.Check(r) != api.OK {
			continue
		}
		for space := range 3 {
			if got := pto.Base(r, space, anyInt(source)); got < min(r.Smooth+milli, most) {
				t.Errorf("Base(%+v, %d): got %d", r, space, got)
			}
		}
	}
}

// P8.3: the base of a new estimate, with even and odd smoothed times.
func TestBaseOfNew(t *testing.T) {
	for _, smooth := range []int{milli, milli + 1, milli + 2, 1234567, 333000000, 333000001, 1 << 35, great - 1, great} {
		want := smooth + 4*(smooth/2)
		for space := range 3 {
			bases(t, fresh(t, smooth), space, 0, want)
		}
		bases(t, fresh(t, smooth), 2, 25*milli, want+25*milli)
	}
}

// P8.4: monotone in the base, the count and the maximum.
func TestBackoffIsMonotone(t *testing.T) {
	all, counts := backoffBases(), backoffCounts()
	for i, base := range all {
		for j, count := range counts {
			for k, bound := range counts {
				got := pto.Backed(base, count, bound)
				if i > 0 && pto.Backed(all[i-1], count, bound) > got {
					t.Errorf("Backed(%d, %d, %d) is more than %d, of a greater base", all[i-1], count, bound, got)
				}
				if j > 0 && pto.Backed(base, counts[j-1], bound) > got {
					t.Errorf("Backed(%d, %d, %d) is more than %d, of a greater count", base, counts[j-1], bound, got)
				}
				if k > 0 && pto.Backed(base, count, counts[k-1]) > got {
					t.Errorf("Backed(%d, %d, %d) is more than %d, of a greater maximum", base, count, counts[k-1], got)
				}
			}
		}
	}
}

// P8.4: beyond the maximum a count changes nothing.
func TestBackoffIsConstant(t *testing.T) {
	for _, base := range backoffBases() {
		for _, bound := range backoffCounts() {
			want := pto.Backed(base, bound, bound)
			for _, count := range backoffCounts() {
				if count > bound {
					backs(t, base, count, bound, want)
				}
			}
		}
	}
}

// P8.5: two backoffs are one with the sum, while that is at most the maximum.
func TestBackoffTwice(t *testing.T) {
	for _, base := range backoffBases() {
		for bound := range 67 {
			for first := 0; first <= bound; first++ {
				for second := 0; first+second <= bound; second++ {
					twice := pto.Backed(pto.Backed(base, first, bound), second, bound)
					backs(t, base, first+second, bound, twice)
				}
			}
		}
	}
}
