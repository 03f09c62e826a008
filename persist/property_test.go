package persist_test

import (
	"math/rand"
	"slices"
	"testing"

	"sounder/api"
	"sounder/persist"
	"sounder/pto"
	"sounder/rtt"
	"sounder/span"
)

// found is a result of Period.
type found struct {
	period, from, to int
	is               bool
}

func find(l []api.Packet, acked *span.Set, first int) found {
	period, from, to, is := persist.Period(l, acked, first)
	return found{period, from, to, is}
}

// isPair tells whether two packets are a pair, by the definition.
func isPair(a, b api.Packet, acked func(n int) bool, first int) bool {
	if !a.Eliciting || !b.Eliciting || a.Number >= b.Number || a.Time <= first || b.Time <= first || b.Time < a.Time {
		return false
	}
	for n := a.Number + 1; n < b.Number; n++ {
		if acked(n) {
			return false
		}
	}
	return true
}

// isBetter tells whether one of two pairs is chosen before the other one.
func isBetter(a, b found) bool {
	switch {
	case a.period != b.period:
		return a.period > b.period
	case a.from != b.from:
		return a.from < b.from
	}
	return a.to < b.to
}

// defined is the period of a valid list by the definition: of all pairs, in any
// order, the best one.
func defined(l []api.Packet, acked func(n int) bool, first int) found {
	var best found
	for _, b := range slices.Backward(l) {
		for _, a := range l {
			if !isPair(a, b, acked, first) {
				continue
			}
			if f := (found{b.Time - a.Time, a.Number, b.Number, true}); !best.is || isBetter(f, best) {
				best = f
			}
		}
	}
	return best
}

// holds checks Period by the definition.
func holds(t *testing.T, l []api.Packet, acked *span.Set, first int) found {
	t.Helper()
	got, want := find(l, acked, first), defined(l, acked.Has, first)
	if got != want {
		t.Fatalf("Period(%v, %v, %d): got %v, want %v", l, acked.Ranges(), first, got, want)
	}
	return got
}

// everySet are all sets of a few numbers from one on.
func everySet(t *testing.T, base, length int) []*span.Set {
	t.Helper()
	var l []*span.Set
	for bits := range 1 << length {
		s := set(t)
		for i := range length {
			if bits>>i&1 == 1 {
				s.Add(base+i, base+i)
			}
		}
		l = append(l, s)
	}
	return l
}

// everyList are all lists of packets with some numbers and some times; with the
// last one of the times they may also be packets that need not be acknowledged.
func everyList(numbers, times []int) [][]api.Packet {
	lists := [][]api.Packet{nil}
	for _, n := range numbers {
		for _, l := range lists[:len(lists):len(lists)] {
			lists = append(lists, append(slices.Clip(l), quiet(n, times[len(times)-1])))
			for _, time := range times {
				lists = append(lists, append(slices.Clip(l), packet(n, time)))
			}
		}
	}
	return lists
}

// P10.1: every list of a few packets with every set of their numbers, at both
// ends of the numbers and times.
func TestEveryList(t *testing.T) {
	many := 0
	for _, base := range []int{0, most - 4} {
		sets := everySet(t, base, 5)
		for _, time := range []int{0, most - 2} {
			lists := everyList([]int{base, base + 1, base + 2, base + 4}, []int{time, time + 1, time + 2})
			for _, l := range lists {
				for _, s := range sets {
					for first := max(time-1, 0); first <= time+1; first++ {
						if holds(t, l, s, first).is {
							many++
						}
					}
				}
			}
		}
	}
	if many < 10000 {
		t.Errorf("only %d of the lists have a period", many)
	}
}

// anyList is a valid list, with numbers close to each other, many equal times,
// and some packets that need not be acknowledged.
func anyList(source *rand.Rand, base, time, most int) []api.Packet {
	var l []api.Packet
	n := base
	spread, rise := 1+source.Intn(200), source.Intn(3)*source.Intn(100)
	for range source.Intn(most + 1) {
		time += rise
		p := packet(n, time+source.Intn(spread))
		p.Eliciting = source.Intn(5) > 0
		l = append(l, p)
		n += 1 + source.Intn(3)*source.Intn(2)
	}
	return l
}

// anySet is one of numbers close to each other.
func anySet(t *testing.T, source *rand.Rand, base, length int) *span.Set {
	t.Helper()
	s := set(t)
	for range source.Intn(1 << source.Intn(7)) {
		lo := base + source.Intn(length)
		s.Add(lo, min(lo+source.Intn(3), base+length-1))
	}
	return s
}

// P10.1: long lists, with all kinds of sets.
func TestManyLists(t *testing.T) {
	source := rand.New(rand.NewSource(101))
	with, without := 0, 0
	for i := range 6000 {
		longest := 30
		if i%40 == 0 {
			longest = room
		}
		base := []int{0, 1 << 40, most - 3*room}[source.Intn(3)]
		time := []int{0, 1 << 40, most - 1<<16}[source.Intn(3)]
		l := anyList(source, base, time, longest)
		first := time + source.Intn(150)
		if holds(t, l, anySet(t, source, base, 3*longest), first).is {
			with++
		} else {
			without++
		}
	}
	if with < 2000 || without < 200 {
		t.Errorf("%d lists have a period, %d have none: too few of one kind", with, without)
	}
}

// atLeast checks that one period is no less than another one.
func atLeast(t *testing.T, great, less found) {
	t.Helper()
	if less.is && (!great.is || great.period < less.period) {
		t.Fatalf("the period %v is less than %v", great, less)
	}
}

// P10.4: with more lost packets the period does not decrease; with more
// acknowledged numbers it does not increase.
func TestMore(t *testing.T) {
	source := rand.New(rand.NewSource(104))
	for range 500 {
		l := anyList(source, 3, 0, 40)
		acked := anySet(t, source, 0, 120)
		first := source.Intn(150)
		for len(l) > 0 {
			at := source.Intn(len(l))
			fewer := slices.Delete(slices.Clone(l), at, at+1)
			atLeast(t, find(l, acked, first), find(fewer, acked, first))
			more := acked.Copy()
			n := source.Intn(120)
			if e := more.Add(n, n); e != api.OK {
				t.Fatalf("Add: error %d", e)
			}
			atLeast(t, find(l, acked, first), find(l, more, first))
			l, acked = fewer, more
		}
	}
}

// P10.4: packets that are not Eliciting do not matter: they may be left out, and
// have any time.
func TestQuietDoNotMatter(t *testing.T) {
	source := rand.New(rand.NewSource(105))
	for range 2000 {
		l := anyList(source, 3, 0, 40)
		acked, first := anySet(t, source, 0, 120), source.Intn(150)
		want := find(l, acked, first)
		for i := range l {
			if !l[i].Eliciting {
				l[i].Time = source.Intn(most)
			}
		}
		loud := slices.DeleteFunc(slices.Clone(l), func(p api.Packet) bool { return !p.Eliciting })
		for _, got := range []found{find(l, acked, first), find(loud, acked, first)} {
			if got != want {
				t.Fatalf("got %v, want %v: other packets than those of %v matter", got, want, loud)
			}
		}
	}
}

// P10.5: if every second packet was acknowledged there is no period.
func TestEverySecond(t *testing.T) {
	source := rand.New(rand.NewSource(106))
	for many := range room + 1 {
		base, time := source.Intn(1<<40), 0
		acked := set(t)
		var l []api.Packet
		for i := range many {
			time += source.Intn(100)
			l = append(l, packet(base+2*i, time))
			if e := acked.Add(base+2*i+1, base+2*i+1); e != api.OK {
				t.Fatalf("Add: error %d", e)
			}
		}
		none(t, l, acked, 0)
		is(t, l, acked, api.Rtt{}, 0, false)
	}
}

// P10.5: where times increase, and none was acknowledged, the period is from the
// first packet that counts to the last one.
func TestRisingTimes(t *testing.T) {
	source := rand.New(rand.NewSource(107))
	for range 500 {
		n, time := source.Intn(100), source.Intn(100)
		var l, counted []api.Packet
		first := source.Intn(2000)
		for range source.Intn(room + 1) {
			n, time = n+1+source.Intn(5), time+1+source.Intn(100)
			p := packet(n, time)
			p.Eliciting = source.Intn(4) > 0
			l = append(l, p)
			if p.Eliciting && time > first {
				counted = append(counted, p)
			}
		}
		// What was acknowledged before and after all of them does not part them.
		around := set(t, api.Range{Lo: n + 1, Hi: n + 9})
		if len(l) > 0 && l[0].Number > 0 {
			around.Add(0, l[0].Number-1)
		}
		for _, s := range append(emptySets(t), around) {
			if len(counted) < 2 {
				none(t, l, s, first)
				continue
			}
			a, b := counted[0], counted[len(counted)-1]
			lasts(t, l, s, first, b.Time-a.Time, a.Number, b.Number)
		}
	}
}

// anyEstimate is one whose base is about a third of the periods here; some are new, some not valid.
func anyEstimate(source *rand.Rand) api.Rtt {
	smooth := source.Intn(3000000)
	r := api.Rtt{Latest: smooth, Min: smooth, Smooth: smooth, Var: source.Intn(1000000), First: source.Intn(5000000)}
	switch source.Intn(8) {
	case 0:
		smooth += milli
		r = api.Rtt{Smooth: smooth, Var: smooth / 2, First: -1}
	case 1:
		r.Min++
	case 2:
		r.First = noTimes()[source.Intn(len(noTimes()))]
	}
	return r
}

// P10.2: Is by its definition, with all kinds of estimates and delays.
func TestIsByDefinition(t *testing.T) {
	source := rand.New(rand.NewSource(102))
	yes, no := 0, 0
	for range 20000 {
		l := anyList(source, 3, 0, 20)
		for i := range l {
			l[i].Time = l[i].Time*50000 + source.Intn(50000)
		}
		acked, r := anySet(t, source, 0, 60), anyEstimate(source)
		delay := source.Intn(3000000) - 1000000
		f := find(l, acked, r.First)
		want := f.is && rtt.Check(r) == api.OK && f.period > pto.Persist(r, delay)
		is(t, l, acked, r, delay, want)
		if want {
			yes++
		} else {
			no++
		}
	}
	if yes < 1000 || no < 1000 {
		t.Errorf("%d are too long, %d are not: too few of one kind", yes, no)
	}
}

// P10.2: at its own length a period is not yet too long; one nanosecond more it is.
func TestIsEdge(t *testing.T) {
	source := rand.New(rand.NewSource(103))
	for range 5000 {
		r := anyEstimate(source)
		if rtt.Check(r) != api.OK || r.First < 0 {
			continue
		}
		delay := source.Intn(100000000)
		sent := r.First + 1 + source.Intn(1000)
		for _, more := range []int{-1, 0, 1} {
			l := []api.Packet{packet(3, sent), packet(8, sent+pto.Persist(r, delay)+more)}
			is(t, l, only(t, 2, 3, 8, 9), r, delay, more > 0)
			is(t, l, only(t, 2, 3, 7, 9), r, delay, false)
		}
	}
}
