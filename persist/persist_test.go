package persist_test

import (
	"math"
	"slices"
	"testing"

	"sounder/api"
	"sounder/persist"
	"sounder/pto"
	"sounder/span"
)

const (
	most  = api.MaxTime
	milli = 1000000
	great = 60000000000
	room  = 256
)

// noTimes are ints that are neither times nor numbers; Never is one of them.
func noTimes() []int {
	return []int{-1, -2, -256, math.MinInt, math.MinInt + 1, most + 1, most + 2, 1 << 62, math.MaxInt - 1, math.MaxInt}
}

// packet is one that must be acknowledged; other fields differ from number to number.
func packet(n, time int) api.Packet {
	return api.Packet{Number: n, Time: time, Size: 1 + n%1200, Eliciting: true, Flight: n%3 != 0, Ect: n%5 == 0}
}

// quiet is one that need not be acknowledged.
func quiet(n, time int) api.Packet {
	p := packet(n, time)
	p.Eliciting = false
	return p
}

// rising are so many packets from a number on, without skipping any, and from a
// time on, ten apart.
func rising(from, time, many int) []api.Packet {
	var l []api.Packet
	for i := range many {
		l = append(l, packet(from+i, time+10*i))
	}
	return l
}

// set is one with some ranges.
func set(t *testing.T, ranges ...api.Range) *span.Set {
	t.Helper()
	s, e := span.New(room)
	if e != api.OK {
		t.Fatalf("New: error %d", e)
	}
	for _, r := range ranges {
		if e := s.Add(r.Lo, r.Hi); e != api.OK {
			t.Fatalf("Add(%d, %d): error %d", r.Lo, r.Hi, e)
		}
	}
	return s
}

// only is a set of some numbers.
func only(t *testing.T, numbers ...int) *span.Set {
	t.Helper()
	var ranges []api.Range
	for _, n := range numbers {
		ranges = append(ranges, api.Range{Lo: n, Hi: n})
	}
	return set(t, ranges...)
}

// emptySets are the sets without numbers: none at all, a zero one, one that was
// always empty, and one that was emptied.
func emptySets(t *testing.T) []*span.Set {
	t.Helper()
	emptied := set(t, api.Range{Lo: 0, Hi: 100})
	if e := emptied.Cut(101); e != api.OK {
		t.Fatalf("Cut: error %d", e)
	}
	return []*span.Set{nil, {}, set(t), emptied}
}

// lasts checks the period of a list, and its pair.
func lasts(t *testing.T, l []api.Packet, acked *span.Set, first, period, from, to int) {
	t.Helper()
	p, a, b, is := persist.Period(l, acked, first)
	if p != period || a != from || b != to || !is {
		t.Errorf("Period(%v, %v, %d): got %d, %d, %d, %v, want %d, %d, %d", l, acked.Ranges(), first, p, a, b, is, period, from, to)
	}
}

// none checks that there is no period, and nothing beside that.
func none(t *testing.T, l []api.Packet, acked *span.Set, first int) {
	t.Helper()
	if p, a, b, is := persist.Period(l, acked, first); p != 0 || a != 0 || b != 0 || is {
		t.Errorf("Period(%v, %v, %d): got %d, %d, %d, %v, want none", l, acked.Ranges(), first, p, a, b, is)
	}
}

// is checks whether a period is too long.
func is(t *testing.T, l []api.Packet, acked *span.Set, r api.Rtt, delay int, want bool) {
	t.Helper()
	if got := persist.Is(l, acked, r, delay); got != want {
		t.Errorf("Is(%v, %v, %+v, %d): got %v", l, acked.Ranges(), r, delay, got)
	}
}

// The chapter's examples.
func TestExamples(t *testing.T) {
	all := []api.Packet{packet(1, 10), packet(3, 50), packet(5, 60), packet(8, 200)}
	for _, no := range emptySets(t) {
		lasts(t, all, no, 5, 190, 1, 8)
		lasts(t, all, no, 10, 150, 3, 8)
		none(t, all, no, 200)
		is(t, all, no, api.Rtt{Latest: 9, Min: 9, Smooth: 10, First: 5}, 0, false)
	}
	lasts(t, all, only(t, 4), 5, 140, 5, 8)
	lasts(t, all, only(t, 2, 6), 5, 10, 3, 5)
	none(t, all, set(t, api.Range{Lo: 1, Hi: 9}), 5)
}

// P10.1: a pair needs two packets.
func TestFewPackets(t *testing.T) {
	for _, s := range append(emptySets(t), only(t, 3, 7), set(t, api.Range{Lo: 0, Hi: most})) {
		for _, first := range []int{0, 4, 5, 6, most} {
			none(t, nil, s, first)
			none(t, []api.Packet{}, s, first)
			none(t, []api.Packet{packet(5, 5)}, s, first)
			none(t, []api.Packet{packet(0, most)}, s, first)
			none(t, []api.Packet{packet(most, 1)}, s, first)
		}
	}
	lasts(t, rising(5, 5, 2), nil, 4, 10, 5, 6)
	lasts(t, []api.Packet{packet(0, 1), packet(most, most)}, nil, 0, most-1, 0, most)
	lasts(t, []api.Packet{packet(most-1, 1), packet(most, most)}, nil, 0, most-1, most-1, most)
}

// P10.1: both packets must have been sent after the first sample, not with it.
func TestFirst(t *testing.T) {
	l := []api.Packet{packet(1, 10), packet(2, 20), packet(3, 30), packet(4, 40)}
	for _, c := range []struct{ first, period, from int }{
		{0, 30, 1}, {9, 30, 1}, {10, 20, 2}, {11, 20, 2}, {19, 20, 2}, {20, 10, 3}, {29, 10, 3},
	} {
		lasts(t, l, nil, c.first, c.period, c.from, 4)
	}
	for _, first := range []int{30, 31, 39, 40, 41, 1 << 40, most - 1, most} {
		none(t, l, nil, first)
	}
	// One that was sent at 0 was never sent after a time.
	none(t, []api.Packet{packet(1, 0), packet(2, 9)}, nil, 0)
	lasts(t, []api.Packet{packet(1, 0), packet(2, 9), packet(3, 11)}, nil, 0, 2, 2, 3)
	// Times need not rise with the numbers: an earlier one may stand anywhere.
	l = []api.Packet{packet(1, 30), packet(2, 5), packet(3, 50), packet(4, 10)}
	lasts(t, l, nil, 4, 45, 2, 3)
	lasts(t, l, nil, 5, 20, 1, 3)
	lasts(t, l, nil, 10, 20, 1, 3)
	none(t, l, nil, 30)
	last := []api.Packet{packet(1, most-1), packet(2, most)}
	lasts(t, last, nil, most-2, 1, 1, 2)
	none(t, last, nil, most-1)
	none(t, last, nil, most)
}

// P10.1: what is no time is no time of a first sample, Never neither.
func TestFirstWrong(t *testing.T) {
	for _, wrong := range noTimes() {
		for _, s := range append(emptySets(t), only(t, 3)) {
			none(t, rising(5, 5, 4), s, wrong)
			none(t, rising(0, most-1000, 4), s, wrong)
			none(t, nil, s, wrong)
		}
	}
}

// P10.1: the second packet must not have been sent before the first one.
func TestTimes(t *testing.T) {
	for _, time := range []int{1, 7, 1 << 40, most - 1} {
		none(t, []api.Packet{packet(1, time+1), packet(2, time)}, nil, 0)
		lasts(t, []api.Packet{packet(1, time), packet(2, time)}, nil, 0, 0, 1, 2)
		lasts(t, []api.Packet{packet(1, time), packet(2, time+1)}, nil, 0, 1, 1, 2)
	}
	none(t, []api.Packet{packet(1, 50), packet(2, 40), packet(3, 30), packet(9, 1)}, nil, 0)
	none(t, []api.Packet{packet(1, most), packet(2, 1)}, nil, 0)
	// The greatest time and the least one are no pair if they stand the wrong way round.
	lasts(t, []api.Packet{packet(1, 50), packet(2, 60), packet(3, 10), packet(4, 30)}, nil, 0, 20, 3, 4)
	lasts(t, []api.Packet{packet(1, 50), packet(2, 80), packet(3, 10), packet(4, 30)}, nil, 0, 30, 1, 2)
	lasts(t, []api.Packet{packet(1, 30), packet(2, 90), packet(3, 10), packet(4, 60)}, nil, 0, 60, 1, 2)
	lasts(t, []api.Packet{packet(1, 90), packet(2, 40), packet(3, 80), packet(4, 10)}, nil, 0, 40, 2, 3)
}

// P10.1: of equal periods the one whose first packet has the least number, then
// whose second one has it.
func TestTies(t *testing.T) {
	lasts(t, []api.Packet{packet(1, 5), packet(2, 5), packet(3, 5)}, nil, 0, 0, 1, 2)
	lasts(t, []api.Packet{packet(1, 5), packet(2, 9), packet(3, 9)}, nil, 0, 4, 1, 2)
	lasts(t, []api.Packet{packet(1, 5), packet(2, 5), packet(3, 9)}, nil, 0, 4, 1, 3)
	lasts(t, []api.Packet{packet(1, 5), packet(2, 5), packet(3, 9), packet(4, 9)}, nil, 0, 4, 1, 3)
	lasts(t, []api.Packet{packet(1, 50), packet(2, 60), packet(3, 20), packet(4, 30)}, nil, 0, 10, 1, 2)
	lasts(t, []api.Packet{packet(1, 20), packet(2, 10), packet(3, 20), packet(4, 30)}, only(t, 3), 0, 10, 2, 3)
	// A longer one comes first, wherever it stands.
	lasts(t, []api.Packet{packet(1, 60), packet(2, 20), packet(3, 30), packet(4, 70)}, nil, 0, 50, 2, 4)
	lasts(t, []api.Packet{packet(1, 60), packet(2, 20), packet(3, 30), packet(4, 70)}, only(t, 3), 0, 40, 3, 4)
	lasts(t, rising(7, 3, room), nil, 2, 10*room-10, 7, 6+room)
	// Period by period, however many there are that are equal.
	var zigzag []api.Packet
	for i := range room {
		zigzag = append(zigzag, packet(40+i, 100+50*(i%2)))
	}
	lasts(t, zigzag, nil, 5, 50, 40, 41)
	lasts(t, zigzag[1:], nil, 5, 50, 42, 43)
}

// P10.1: each number strictly between two packets parts them, and no other one does.
func TestAcknowledged(t *testing.T) {
	for _, low := range []int{0, 1, 1000, most - 20} {
		for gap := range 6 {
			high := low + gap + 1
			l := []api.Packet{packet(low, 10), packet(high, 30)}
			for n := max(low-3, 0); n <= high+3; n++ {
				if low < n && n < high {
					none(t, l, only(t, n), 5)
				} else {
					lasts(t, l, only(t, n), 5, 20, low, high)
				}
			}
		}
	}
}

// P10.1: the packets' own numbers, and all numbers around the two, may be acknowledged.
func TestAcknowledgedAround(t *testing.T) {
	l := []api.Packet{packet(10, 10), packet(15, 30)}
	lasts(t, l, set(t, api.Range{Lo: 0, Hi: 10}, api.Range{Lo: 15, Hi: most}), 5, 20, 10, 15)
	none(t, l, set(t, api.Range{Lo: 0, Hi: 11}, api.Range{Lo: 15, Hi: most}), 5)
	none(t, l, set(t, api.Range{Lo: 0, Hi: 10}, api.Range{Lo: 14, Hi: most}), 5)
	none(t, l, set(t, api.Range{Lo: 0, Hi: 10}, api.Range{Lo: 12, Hi: 13}, api.Range{Lo: 15, Hi: most}), 5)
	none(t, l, set(t, api.Range{Lo: 11, Hi: 14}), 5)
	none(t, l, set(t, api.Range{Lo: 10, Hi: 15}), 5)
	none(t, l, set(t, api.Range{Lo: 0, Hi: most}), 5)
	// Between neighbours there is no number that could be.
	next := []api.Packet{packet(10, 10), packet(11, 30), packet(12, 70)}
	lasts(t, next, set(t, api.Range{Lo: 0, Hi: most}), 5, 40, 11, 12)
	lasts(t, next, only(t, 11), 5, 40, 11, 12)
	lasts(t, next, only(t, 10, 12), 5, 60, 10, 12)
	ends := []api.Packet{packet(0, 10), packet(most, 30)}
	lasts(t, ends, only(t, 0, most), 5, 20, 0, most)
	none(t, ends, only(t, 1), 5)
	none(t, ends, only(t, most-1), 5)
	none(t, ends, only(t, 1<<40), 5)
}

// P10.1: a lost packet between two others does not part them, an acknowledged one does,
// wherever in a long list it stands.
func TestParted(t *testing.T) {
	l := rising(0, 5, room)
	for n := range room {
		// From the least number to n, or from n to the greatest one: what is longer.
		from, to := 0, n
		if n < room-1-n {
			from, to = n, room-1
		}
		if n == 0 || n == room-1 {
			from, to = 0, room-1
		}
		lasts(t, l, only(t, n), 4, 10*(to-from), from, to)
	}
}

// P10.1: as many ranges as there may be, between as many packets as there may be.
func TestRoom(t *testing.T) {
	var l []api.Packet
	s := set(t)
	for i := range room {
		l = append(l, packet(2*i, 10+10*i))
		if e := s.Add(2*i+1, 2*i+1); e != api.OK {
			t.Fatalf("Add: error %d", e)
		}
	}
	none(t, l, s, 5)
	for i := range room - 1 {
		far := slices.Clone(l)
		far[i+1].Number--
		lasts(t, far, s, 5, 10, 2*i, 2*i+1)
	}
	for below := 1; below < 2*room; below++ {
		s.Cut(below)
		// What is below may be one stretch now: up to the packet before the next number that is left.
		if i := below / 2; i > 0 {
			lasts(t, l, s, 5, 10*i, 0, 2*i)
		}
	}
}

// P10.1: packets that need not be acknowledged begin and end no period.
func TestEliciting(t *testing.T) {
	for marks := range 16 {
		var l []api.Packet
		var counted []int
		for i := range 4 {
			p := packet(i, 10+1<<(2*i))
			p.Eliciting = marks>>i&1 == 1
			l = append(l, p)
			if p.Eliciting {
				counted = append(counted, i)
			}
		}
		if len(counted) < 2 {
			none(t, l, nil, 5)
			continue
		}
		from, to := counted[0], counted[len(counted)-1]
		lasts(t, l, nil, 5, l[to].Time-l[from].Time, from, to)
	}
	none(t, []api.Packet{quiet(1, 10), packet(2, 20), quiet(3, 30)}, nil, 0)
	none(t, []api.Packet{packet(1, 10), quiet(2, 20)}, nil, 0)
	none(t, []api.Packet{quiet(1, 10), packet(2, 20)}, nil, 0)
	lasts(t, []api.Packet{packet(1, 10), quiet(2, 20), packet(3, 30)}, nil, 0, 20, 1, 3)
}

// P10.1: size and the other marks of a packet do not matter.
func TestOtherFields(t *testing.T) {
	for _, size := range []int{1, 1200, 65535} {
		for marks := range 4 {
			p := api.Packet{Number: 5, Time: 3, Size: size, Eliciting: true, Flight: marks&1 > 0, Ect: marks&2 > 0}
			q := api.Packet{Number: 9, Time: 8, Size: 65536 - size, Eliciting: true, Flight: marks&2 > 0, Ect: marks&1 > 0}
			lasts(t, []api.Packet{p, q}, nil, 2, 5, 5, 9)
			none(t, []api.Packet{p, q}, only(t, 7), 2)
		}
	}
}

// P10.1: a list that is not valid has no period, wherever the fault stands.
func TestWrongLists(t *testing.T) {
	for _, many := range []int{room + 1, room + 2, 2 * room, 1 << 16, 1<<16 + 2} {
		none(t, rising(0, 5, many), nil, 0)
		is(t, rising(0, 5, many), nil, api.Rtt{}, 0, false)
	}
	long := []api.Packet{packet(1, 1), packet(2, 1<<40)}
	lasts(t, long, nil, 0, 1<<40-1, 1, 2)
	is(t, long, nil, api.Rtt{}, 0, true)
	for i := range 4 {
		for _, change := range wrongs() {
			l := []api.Packet{packet(1, 1), quiet(2, 5), packet(3, 0), packet(7, 1<<40)}
			change(&l[i])
			none(t, l, nil, 0)
			is(t, l, nil, api.Rtt{}, 0, false)
		}
	}
	for _, l := range [][]api.Packet{
		{packet(1, 1), packet(1, 1<<40)},
		{packet(2, 1), packet(1, 1<<40)},
		{packet(2, 1), quiet(1, 1), packet(3, 1<<40)},
		{packet(1, 1), packet(2, 1<<40), quiet(2, 1)},
		{packet(most, 1), packet(0, 1<<40)},
	} {
		none(t, l, nil, 0)
		is(t, l, nil, api.Rtt{}, 0, false)
	}
}

// wrongs make a packet one that is not valid.
func wrongs() []func(p *api.Packet) {
	var l []func(p *api.Packet)
	for _, wrong := range noTimes() {
		l = append(l, func(p *api.Packet) { p.Number = wrong }, func(p *api.Packet) { p.Time = wrong })
	}
	for _, wrong := range append(noTimes(), 0, 65536, 65537, 1<<32+1, most) {
		l = append(l, func(p *api.Packet) { p.Size = wrong })
	}
	return l
}

// measured is an estimate with a smoothed time, how much it varies, and a first sample.
func measured(smooth, variation, first int) api.Rtt {
	return api.Rtt{Latest: smooth, Min: smooth, Smooth: smooth, Var: variation, First: first}
}

// P10.2: too long is longer than three times the base, with the delay.
func TestIs(t *testing.T) {
	for _, c := range []struct {
		r           api.Rtt
		delay, want int
	}{
		{measured(10, 0, 5), 0, 3000030},
		{measured(10, 0, 5), 7, 3000051},
		{measured(10, 0, 5), -7, 3000030},
		{measured(10, 0, 5), math.MinInt, 3000030},
		{measured(0, 0, 0), 0, 3000000},
		{measured(2000000, 300000, 9), 5000000, 24600000},
		{measured(333000000, 166500000, 9), 25000000, 3072000000},
		{measured(1<<40, 1<<39, 1<<45), 1 << 30, 3 * (1<<40 + 1<<41 + 1<<30)},
	} {
		sent := c.r.First + 1
		for _, near := range []int{0, 1, c.want / 3, c.want - 1, c.want} {
			is(t, []api.Packet{packet(1, sent), packet(2, sent+near)}, nil, c.r, c.delay, false)
		}
		for _, far := range []int{c.want + 1, c.want + 2, 2 * c.want, most - sent} {
			l := []api.Packet{packet(1, sent), packet(3, sent+far)}
			for _, s := range append(emptySets(t), only(t, 1, 3, 4)) {
				is(t, l, s, c.r, c.delay, true)
			}
			is(t, l, only(t, 2), c.r, c.delay, false)
		}
	}
}

// P10.2: no period is longer than the greatest time.
func TestIsGreatest(t *testing.T) {
	longest := []api.Packet{packet(1, 1), packet(2, most)}
	base := most/3 - milli
	is(t, longest, nil, measured(0, 0, 0), 0, true)
	is(t, longest, nil, measured(base-1, 0, 0), 0, true)
	is(t, longest, nil, measured(base, 0, 0), 0, most-1 > most/3*3)
	is(t, longest, nil, measured(base+1, 0, 0), 0, false)
	is(t, longest, nil, measured(most, most, 0), 0, false)
	for _, delay := range []int{most / 3, most - 1, most, most + 1, math.MaxInt} {
		is(t, longest, nil, measured(0, 0, 0), delay, false)
	}
	is(t, longest, nil, measured(0, 0, 0), most/3-milli-1, true)
}

// P10.2: First of the estimate is the time of the first sample.
func TestIsFirst(t *testing.T) {
	l := []api.Packet{packet(1, 10), packet(2, 20), packet(3, 20+4*milli), packet(4, 20+7*milli)}
	for _, c := range []struct {
		first int
		want  bool
	}{
		{0, true}, {9, true}, {10, true}, {19, true}, {20, false}, {20 + 4*milli, false}, {20 + 7*milli, false}, {most, false},
	} {
		is(t, l, nil, measured(0, 0, c.first), 0, c.want)
	}
	is(t, l[:3], nil, measured(100, 0, 0), 333236, true)
	is(t, l[:3], nil, measured(100, 0, 0), 333237, false)
	is(t, l[:2], nil, measured(0, 0, 0), 0, false)
	is(t, l[:1], nil, measured(0, 0, 0), 0, false)
	is(t, nil, nil, measured(0, 0, 0), 0, false)
}

// P10.2: before there is a sample nothing is too long.
func TestIsNew(t *testing.T) {
	longest := []api.Packet{packet(1, 1), packet(2, most)}
	for _, smooth := range []int{milli, 333000000, great} {
		r := api.Rtt{Smooth: smooth, Var: smooth / 2, First: -1}
		for _, delay := range []int{-1, 0, 25 * milli, most} {
			is(t, longest, nil, r, delay, false)
			is(t, rising(0, 0, room), nil, r, delay, false)
		}
		// With a sample, at the earliest time there is, it may be.
		r.First = 0
		is(t, longest, nil, r, 0, true)
	}
}

// P10.2: with an estimate that is not valid nothing is too long, as there is
// nothing that it would be longer than.
func TestIsWrongEstimates(t *testing.T) {
	l := []api.Packet{packet(1, 10), packet(2, most)}
	valid := api.Rtt{Latest: 5, Min: 3, Smooth: 4, Var: 2, First: 9}
	is(t, l, nil, valid, 0, true)
	wrong := []api.Rtt{{Latest: 1, Min: 2, Smooth: 2}, {Latest: 2, Min: 2, Smooth: 1}, {First: -1}}
	for _, n := range noTimes() {
		for field := range 5 {
			r := valid
			*[]*int{&r.Latest, &r.Min, &r.Smooth, &r.Var, &r.First}[field] = n
			wrong = append(wrong, r)
		}
	}
	for _, r := range wrong {
		if r.First == 9 && pto.Persist(r, 0) != 0 {
			t.Fatalf("%+v has a base", r)
		}
		for _, delay := range []int{-1, 0, 7, most} {
			is(t, l, nil, r, delay, false)
			is(t, l, only(t, 7), r, delay, false)
		}
	}
}

// P10.3: lists with spare capacity are only read, beyond their length, too; and so are sets.
func TestArgumentsAreRead(t *testing.T) {
	whole := []api.Packet{packet(0, 90), quiet(1, 10), packet(2, 20), packet(4, 5), quiet(5, 100), packet(7, 70), packet(8, 75), packet(9, 200)}
	before := slices.Clone(whole)
	for _, acked := range []*span.Set{set(t), only(t, 3), only(t, 1, 6, 9), set(t, api.Range{Lo: 0, Hi: most})} {
		copied := acked.Copy()
		for many := range len(whole) + 1 {
			for first := -1; first < 210; first++ {
				persist.Period(whole[:many], acked, first)
				persist.Is(whole[:many], acked, measured(0, 0, max(first, 0)), first)
			}
			if !slices.Equal(whole, before) {
				t.Fatalf("%d of the packets %v became %v", many, before, whole)
			}
			if !acked.Same(copied) {
				t.Fatalf("the set %v became %v", copied.Ranges(), acked.Ranges())
			}
		}
	}
}
