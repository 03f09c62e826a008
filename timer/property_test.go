package timer_test

import (
	"math/rand"
	"testing"

	"sounder/api"
	"sounder/pto"
	"sounder/rtt"
	"sounder/timer"
)

// question is the arguments of Pick.
type question struct {
	f                   timer.Facts
	r                   api.Rtt
	delay, count, bound int
}

func (q question) answer() timer.Due { return timer.Pick(q.f, q.r, q.delay, q.count, q.bound) }

func (q question) wait(space int) int {
	return pto.Backed(pto.Base(q.r, space, q.delay), q.count, q.bound)
}

// isTime and isNumber are as chapter 1 defines them.
func isNumber(n int) bool { return n >= 0 && n <= most }
func isTime(n int) bool   { return n == never || isNumber(n) }

// isValid tells whether a state is, by the definition.
func isValid(f timer.Facts) bool {
	for _, s := range f.Spaces {
		if !isTime(s.Loss) || !isTime(s.Last) || s.Many < 0 || s.Many > room {
			return false
		}
	}
	return isNumber(f.Now)
}

// probes tells whether packets in flight of a space lead to a probe, by the
// definition.
func probes(f timer.Facts, space int) bool {
	s := f.Spaces[space]
	return s.Many > 0 && s.Last != never && (space < 2 || f.Confirmed)
}

// defined is the next timeout by the definition.
func (q question) defined() timer.Due {
	f := q.f
	if !isValid(f) || rtt.Check(q.r) != api.OK {
		return none
	}
	if d := earliest(1, func(space int) (int, bool) {
		return f.Spaces[space].Loss, f.Spaces[space].Loss != never
	}); d != none || f.Limited {
		return d
	}
	if d := earliest(2, func(space int) (int, bool) {
		return pto.Due(f.Spaces[space].Last, q.wait(space)), probes(f, space)
	}); d != none {
		return d
	}
	if f.Spaces[0].Many+f.Spaces[1].Many+f.Spaces[2].Many > 0 || f.Peer {
		return none
	}
	switch {
	case f.Spaces[1].Keys:
		return probe(1, pto.Due(f.Now, q.wait(1)))
	case f.Spaces[0].Keys:
		return probe(0, pto.Due(f.Now, q.wait(0)))
	}
	return none
}

// earliest is the timeout of a kind that is the earliest one of those that there
// are.
func earliest(kind int, of func(space int) (int, bool)) timer.Due {
	d := none
	for space := range 3 {
		if time, is := of(space); is && (d == none || time < d.Time) {
			d = timer.Due{Kind: kind, Space: space, Time: time}
		}
	}
	return d
}

// holds checks the next timeout by the definition and for each property.
func (q question) holds(t *testing.T) {
	t.Helper()
	got, want := q.answer(), q.defined()
	if got != want {
		t.Fatalf("%+v: got %+v, want %+v", q, got, want)
	}
	if may := timer.May(q.f); may != isValid(q.f) {
		t.Fatalf("May(%+v): got %v", q.f, may)
	}
	if isValid(q.f) && rtt.Check(q.r) == api.OK {
		q.progresses(t, got)
		q.prefersLoss(t, got)
		q.dependsOnOne(t)
	}
}

// progresses checks P18.2: there is a timeout for packets in flight.
func (q question) progresses(t *testing.T, got timer.Due) {
	t.Helper()
	counts := probes(q.f, 0) || probes(q.f, 1) || probes(q.f, 2)
	if counts && !q.f.Limited && (got.Kind == 0 || !isNumber(got.Time)) {
		t.Fatalf("%+v: packets are in flight, and %+v is next", q, got)
	}
	if got.Kind == 0 && got != none {
		t.Fatalf("%+v: %+v is no timeout", q, got)
	}
}

// prefersLoss checks P18.3: losses come first, and a greater count does not make a
// probe earlier.
func (q question) prefersLoss(t *testing.T, got timer.Due) {
	t.Helper()
	hasLoss := false
	for _, s := range q.f.Spaces {
		hasLoss = hasLoss || s.Loss != never
	}
	if hasLoss != (got.Kind == 1) {
		t.Fatalf("%+v: %+v is next", q, got)
	}
	q.count++
	if more := q.answer(); more.Kind != got.Kind || more.Time < got.Time {
		t.Fatalf("%+v: %+v with one count less, then %+v", q, got, more)
	}
}

// dependsOnOne checks P18.4: where only one space has packets in flight, neither
// keys nor the other spaces change its timeout.
func (q question) dependsOnOne(t *testing.T) {
	t.Helper()
	for space := range 3 {
		if !probes(q.f, space) {
			continue
		}
		alone := q
		alone.f.Spaces = [3]timer.Fact{quiet(), quiet(), quiet()}
		alone.f.Spaces[space] = q.f.Spaces[space]
		want := alone.answer()
		for keys := range 8 {
			other := alone
			for i := range 3 {
				other.f.Spaces[i].Keys = keys>>i&1 > 0
				if i != space {
					other.f.Spaces[i].Last = q.f.Spaces[i].Last
				}
			}
			if got := other.answer(); got != want {
				t.Fatalf("%+v: %+v, but alone it is %+v", other, got, want)
			}
		}
	}
}

// facts are all states of a space that are made of these.
func facts(losses, lasts, many []int) []timer.Fact {
	var all []timer.Fact
	for _, loss := range losses {
		for _, last := range lasts {
			for _, n := range many {
				all = append(all, timer.Fact{Loss: loss, Last: last, Many: n}, timer.Fact{Keys: true, Loss: loss, Last: last, Many: n})
			}
		}
	}
	return all
}

// flagged is a state with flags by the bits of a number.
func flagged(spaces [3]timer.Fact, bits, now int) timer.Facts {
	return timer.Facts{Spaces: spaces, Confirmed: bits&1 > 0, Limited: bits&2 > 0, Peer: bits&4 > 0, Now: now}
}

// P18.1 to P18.4: each state in which each field is one of a few.
func TestEachState(t *testing.T) {
	// With these, the sums of SpaceApp can be equal to the ones of other spaces.
	const shift = 2 * (appBase - hereBase)
	all := facts([]int{never, 6}, []int{never, 5, 5 + shift}, []int{0, 1})
	for _, initial := range all {
		for _, hand := range all {
			for _, app := range all {
				for bits := range 8 {
					f := flagged([3]timer.Fact{initial, hand, app}, bits, 4)
					question{f, example(), delay, 1, 10}.holds(t)
				}
			}
		}
	}
}

// P18.1, P18.3: each three times at which packets may be lost.
func TestEachLoss(t *testing.T) {
	times := []int{never, 0, 1, 2, most - 1, most}
	for _, initial := range times {
		for _, hand := range times {
			for _, app := range times {
				for bits := range 8 {
					f := flagged([3]timer.Fact{losing(initial), losing(hand), losing(app)}, bits, 1)
					question{f, example(), delay, 1, 10}.holds(t)
					f.Spaces[bits%3] = timer.Fact{Keys: true, Loss: f.Spaces[bits%3].Loss, Last: 3, Many: 2}
					question{f, example(), delay, 1, 10}.holds(t)
				}
			}
		}
	}
}

// anyOf is one of some ints.
func anyOf(source *rand.Rand, of ...int) int { return of[source.Intn(len(of))] }

// anyNumber is a small number, a great one, or one between.
func anyNumber(source *rand.Rand) int {
	return anyOf(source, source.Intn(4), most-source.Intn(4), source.Intn(30000000), source.Intn(most))
}

// anyFact is a state of a space; a few are not valid.
func anyFact(source *rand.Rand) timer.Fact {
	s := timer.Fact{Keys: source.Intn(2) == 0, Loss: never, Last: anyNumber(source), Many: source.Intn(3)}
	if source.Intn(4) == 0 {
		s.Loss = anyNumber(source)
	}
	switch source.Intn(60) {
	case 0:
		s.Loss = anyOf(source, -2, most+1)
	case 1:
		s.Last = anyOf(source, -2, most+1)
	case 2:
		s.Many = anyOf(source, -1, room+1)
	case 3:
		s.Last = never
	case 4:
		s.Many = room
	}
	return s
}

// anyEstimate is a valid one in most cases.
func anyEstimate(source *rand.Rand) api.Rtt {
	if source.Intn(3) == 0 {
		smooth := 1000000 * (1 + source.Intn(400))
		return api.Rtt{Smooth: smooth, Var: smooth / 2, First: never}
	}
	least := source.Intn(5000000)
	r := api.Rtt{Latest: least + source.Intn(100), Min: least, Smooth: least + source.Intn(100), Var: source.Intn(2000000)}
	switch source.Intn(20) {
	case 0:
		r.Smooth = least - 1
	case 1:
		r.Smooth = most
	case 2:
		r.Var = most
	}
	return r
}

// P18.1 to P18.4: random states with all kinds of estimates, delays and counts.
func TestAnyState(t *testing.T) {
	source := rand.New(rand.NewSource(18))
	kinds := [3]int{}
	for range 200000 {
		var spaces [3]timer.Fact
		for i := range spaces {
			spaces[i] = anyFact(source)
		}
		q := question{
			f:     flagged(spaces, source.Intn(8), anyNumber(source)),
			r:     anyEstimate(source),
			delay: anyOf(source, -1, 0, source.Intn(30000000), most),
			count: source.Intn(8) - 1,
			bound: source.Intn(8) - 1,
		}
		if source.Intn(50) == 0 {
			q.f.Now = anyOf(source, -1, most+1)
		}
		q.holds(t)
		kinds[q.answer().Kind]++
	}
	if min(kinds[0], kinds[1], kinds[2]) < 10000 {
		t.Errorf("none, losses and probes: %v, too few of one kind", kinds)
	}
}
