package space_test

import (
	"math/rand"
	"slices"
	"testing"

	"sounder/api"
	"sounder/frame"
	"sounder/space"
)

// set is numbers, one by one.
type set map[int]struct{}

func (s set) has(n int) bool { _, is := s[n]; return is }

// ranges is how many runs of numbers there would be with those from lo to hi.
func (s set) ranges(lo, hi int) int {
	has := func(n int) bool { return s.has(n) || lo <= n && n <= hi }
	runs := 0
	for n := range s {
		if !has(n - 1) {
			runs++
		}
	}
	if !s.has(lo) && !has(lo-1) {
		runs++
	}
	return runs
}

// add adds the numbers from lo to hi, all of which must be few.
func (s set) add(lo, hi int) {
	for n := lo; n <= hi; n++ {
		s[n] = struct{}{}
	}
}

// missing tells whether a number from lo to hi is not there.
func (s set) missing(lo, hi int) bool {
	for n := lo; n <= hi; n++ {
		if !s.has(n) {
			return true
		}
	}
	return false
}

// defined is a space by the chapter's definitions: lists and sets of numbers.
type defined struct {
	room                       int
	list                       []api.Packet
	known, acked               set
	last, greatest, loss, time int
}

func definedNew(room int) *defined {
	return &defined{room: room, known: set{}, acked: set{}, last: -1, greatest: -1, loss: never, time: never}
}

func (d *defined) sent(p api.Packet) api.Errno {
	switch {
	case p.Number < 0 || p.Number > most || p.Time < 0 || p.Time > api.MaxTime || p.Size < 1 || p.Size > api.MaxSize:
		return api.ErrArg
	case p.Number <= d.last:
		return api.ErrNumber
	case len(d.list) == d.room, d.known.ranges(p.Number, p.Number) > 256:
		return api.ErrLimit
	}
	d.list = append(d.list, p)
	d.known.add(p.Number, p.Number)
	d.last = p.Number
	if p.Flight && p.Eliciting {
		d.time = p.Time
	}
	return api.OK
}

func (d *defined) ack(a api.Ack) ([]api.Packet, api.Errno) {
	if frame.Check(a) != api.OK {
		return nil, api.ErrArg
	}
	for _, r := range a.Ranges {
		if d.known.missing(r.Lo, r.Hi) {
			return nil, api.ErrUnsent
		}
	}
	for n := range d.acked {
		if len(d.list) == 0 || n < d.list[0].Number {
			delete(d.acked, n)
		}
	}
	for _, r := range a.Ranges {
		if d.acked.ranges(r.Lo, r.Hi) <= 256 {
			d.acked.add(r.Lo, r.Hi)
		}
	}
	d.greatest = max(d.greatest, a.Ranges[0].Hi)
	return d.drop(func(p api.Packet) bool { return frame.Has(a, p.Number) }), api.OK
}

func (d *defined) lose(now int, r api.Rtt) []api.Packet {
	wait := max(max(r.Smooth, r.Latest)*9/8, 1000000)
	lost := d.drop(func(p api.Packet) bool {
		return p.Number <= d.greatest && (d.greatest-p.Number >= 3 || now-p.Time >= wait)
	})
	d.loss = never
	for _, p := range d.list {
		if at := min(p.Time+wait, api.MaxTime); p.Number <= d.greatest && (d.loss == never || at < d.loss) {
			d.loss = at
		}
	}
	return lost
}

func (d *defined) drop(goes func(p api.Packet) bool) []api.Packet {
	var gone, rest []api.Packet
	for _, p := range d.list {
		if goes(p) {
			gone = append(gone, p)
		} else {
			rest = append(rest, p)
		}
	}
	d.list = rest
	return gone
}

func (d *defined) discard() { d.list, d.loss, d.time = nil, never, never }

// both makes the same calls to a space and to the definition.
type both struct {
	t      *testing.T
	s      *space.Space
	d      *defined
	source *rand.Rand
	// r is the estimate, back how far behind numbers are acknowledged.
	r    api.Rtt
	back int
	// skips is one in how many packets skips numbers, acks one in how many steps is
	// an ACK, loses one in how many of those is followed by Lose.
	skips, acks, loses int
	// gone is what was returned: P17.6.
	gone set
}

// sendNext sends a packet with a number a little above the last one.
func (b *both) sendNext() {
	n := b.d.last + 1
	if b.source.Intn(b.skips) == 0 {
		n += 1 + b.source.Intn(3)
	}
	p := api.Packet{
		Number: n, Time: b.source.Intn(4) * 500000, Size: 1 + b.source.Intn(9),
		Eliciting: b.source.Intn(3) > 0, Flight: b.source.Intn(3) > 0, Ect: b.source.Intn(2) > 0,
	}
	sends(b.t, b.s, p, b.d.sent(p))
	if b.source.Intn(20) == 0 {
		p.Number -= b.source.Intn(5)
		sends(b.t, b.s, p, b.d.sent(p))
	}
}

// someAck has some of the last numbers; now and then one of them was never sent.
func (b *both) someAck() api.Ack {
	var a api.Ack
	hi := b.d.last
	for len(a.Ranges) == 0 || b.source.Intn(4) > 0 && len(a.Ranges) < 9 {
		hi -= b.source.Intn(1 + b.back/(2+b.source.Intn(40)))
		for b.source.Intn(200) > 0 && hi >= 0 && !b.d.known.has(hi) {
			hi--
		}
		lo := hi
		for b.source.Intn(3) > 0 && (b.d.known.has(lo-1) || b.source.Intn(100) == 0) {
			lo--
		}
		if lo < 0 {
			break
		}
		a.Ranges = append(a.Ranges, api.Range{Lo: lo, Hi: hi})
		hi = lo - 2
	}
	return a
}

func (b *both) ackSome() {
	a := b.someAck()
	want, e := b.d.ack(a)
	greatest := b.s.Greatest()
	acks(b.t, b.s, a, e, want...)
	b.once(want)
	if g := b.s.Greatest(); g < greatest || g >= 0 && !b.d.known.has(g) {
		b.t.Errorf("P17.8: Greatest went from %d to %d", greatest, g)
	}
}

// once checks P17.6.
func (b *both) once(list []api.Packet) {
	for _, p := range list {
		if b.gone.has(p.Number) || !b.d.known.has(p.Number) {
			b.t.Errorf("P17.6: %d was returned twice, or never sent", p.Number)
		}
		b.gone.add(p.Number, p.Number)
	}
}

func (b *both) lose() {
	now := b.source.Intn(6) * 500000
	want := b.d.lose(now, b.r)
	loses(b.t, b.s, now, b.r, api.OK, want...)
	b.once(want)
	for _, p := range b.s.All() {
		if p.Number <= b.s.Greatest()-3 {
			b.t.Errorf("P17.7: %d is below %d", p.Number, b.s.Greatest())
		}
	}
}

func (b *both) step() {
	if b.source.Intn(30) == 0 {
		b.s = b.s.Copy()
	}
	switch {
	case b.source.Intn(200) == 0:
		b.s.Discard()
		b.d.discard()
	case b.source.Intn(b.acks) > 0 && b.d.last < most-10:
		b.sendNext()
	default:
		b.ackSome()
		if b.source.Intn(b.loses) == 0 {
			b.lose()
		}
	}
	b.matches()
}

func (b *both) matches() {
	b.t.Helper()
	stands(b.t, b.s, b.d.last, b.d.greatest, b.d.loss, b.d.time, b.d.list...)
}

// matchesSets asks for each number from one to a little above the last one whether
// it is known and remembered.
func (b *both) matchesSets(from int) {
	b.t.Helper()
	for n := max(from, 1); n <= min(b.d.last+3, most-1); n++ {
		if is := knows(b.s, n); is != b.d.known.has(n) {
			b.t.Errorf("known %d: got %v", n, is)
		}
		if is := remembers(b.s, n); is != b.d.acked.has(n) {
			b.t.Errorf("remembered %d: got %v", n, is)
		}
	}
}

// P17.1 to P17.8: long series in small and large rooms, from different numbers on,
// with and without skipped numbers, with many ranges, with and without losses.
func TestSeries(t *testing.T) {
	source := rand.New(rand.NewSource(171))
	var mostKnown, mostAcked int
	for _, room := range []int{1, 2, 3, 5, 17, 256} {
		for _, skips := range []int{2, 20, 1000} {
			for _, loses := range []int{2, 10, 1000000} {
				for _, base := range []int{0, most - 700} {
					b := &both{
						t: t, s: made(t, room), d: definedNew(room), source: source,
						r:    api.Rtt{Smooth: source.Intn(2) * 2000000},
						back: 2 + source.Intn(2*room+8), skips: skips, acks: 3, loses: loses, gone: set{},
					}
					first := packet(base, 1)
					sends(t, b.s, first, b.d.sent(first))
					for i := range 400 {
						if b.step(); t.Failed() {
							t.Fatalf("room %d, skips %d, loses %d, base %d, step %d", room, skips, loses, base, i)
						}
					}
					b.matchesSets(base - 2)
					mostKnown = max(mostKnown, b.d.known.ranges(base, base))
					mostAcked = max(mostAcked, b.d.acked.ranges(base, base))
				}
			}
		}
	}
	t.Logf("at most %d ranges known, %d remembered", mostKnown, mostAcked)
}

// P17.1, P17.2: series in which both sets of numbers have as many ranges as they can:
// the even numbers are not acknowledged as long as there is room, and then half of the
// packets skip numbers; nothing is lost.
func TestSeriesOfManyRanges(t *testing.T) {
	source := rand.New(rand.NewSource(172))
	for turn := range 12 {
		b := &both{t: t, s: made(t, 256), d: definedNew(256), source: source, gone: set{}, skips: 10 << turn}
		for range 1000 {
			b.sendNext()
			b.matches()
			if len(b.d.list) > 200 {
				b.skips = 2
			}
			if n := b.d.last; b.skips == 2 || n%2 == 1 {
				b.ackRanges(api.Range{Lo: n, Hi: n})
			}
		}
		if known, acked := b.d.known.ranges(0, 0), b.d.acked.ranges(1, 1); known < 256 || acked < 256 {
			t.Errorf("turn %d: only %d ranges known, %d remembered", turn, known, acked)
		}
		b.matchesSets(0)
		for range 40 {
			b.ackRanges(b.scattered()...)
			b.matches()
		}
		b.matchesSets(0)
		if t.Failed() {
			t.Fatalf("turn %d", turn)
		}
	}
}

// ackRanges acknowledges some known ranges, of which the greatest one comes first.
func (b *both) ackRanges(ranges ...api.Range) {
	b.t.Helper()
	a := api.Ack{Ranges: ranges}
	want, e := b.d.ack(a)
	acks(b.t, b.s, a, e, want...)
	b.once(want)
}

// scattered are single known numbers, the greatest one first.
func (b *both) scattered() []api.Range {
	var list []api.Range
	for n := b.d.last; n > 3 && len(list) < 20; n -= 2 + b.source.Intn(40) {
		if b.d.known.has(n) {
			list = append(list, api.Range{Lo: n, Hi: n})
		}
	}
	if len(list) == 0 {
		list = append(list, api.Range{Lo: b.d.last, Hi: b.d.last})
	}
	return list
}

// P17.6: nothing is returned twice, whatever is acknowledged again, and everything
// that was sent and not discarded is returned in the end.
func TestEachOnce(t *testing.T) {
	source := rand.New(rand.NewSource(173))
	for room := 1; room <= 40; room += 3 {
		s, returned := made(t, room), map[int]int{}
		count := func(list []api.Packet, e api.Errno) {
			if e != api.OK {
				t.Fatalf("error %d", e)
			}
			for _, p := range list {
				returned[p.Number]++
			}
		}
		for n := 0; n < 10*room; {
			if e := s.Sent(packet(n, n)); e == api.OK {
				n++
			}
			lo := source.Intn(n)
			count(s.Ack(ack(lo, min(n-1, lo+source.Intn(3)))))
			count(s.Lose(n, quick()))
			if source.Intn(3*room) == 0 {
				count(s.Ack(ack(n-1, n-1)))
			}
		}
		count(s.Ack(ack(0, 10*room-1)))
		for n := range 10 * room {
			if returned[n] != 1 {
				t.Errorf("room %d: %d was returned %d times", room, n, returned[n])
			}
		}
		if all := s.All(); len(all) > 0 || len(returned) != 10*room {
			t.Errorf("room %d: %v is left, %d were returned", room, all, len(returned))
		}
	}
}

// P17.1 to P17.7: every sequence of a few steps with a few packets, whose numbers and
// times are such that each kind of loss occurs.
func TestEveryShortSequence(t *testing.T) {
	const length = 6
	list := []api.Packet{packet(0, 0), packet(1, 10), packet(2, 1000000), packet(4, 20), packet(5, 2000000)}
	steps := []func(b *both){
		func(b *both) {
			p := list[min(len(b.d.known), len(list)-1)]
			sends(b.t, b.s, p, b.d.sent(p))
		},
		func(b *both) { b.ackRanges(ack(0, 0).Ranges...) },
		func(b *both) { b.ackRanges(ack(2, 2, 0, 0).Ranges...) },
		func(b *both) { b.ackRanges(ack(1, 1).Ranges...) },
		func(b *both) { b.ackRanges(ack(4, 4, 1, 2).Ranges...) },
		func(b *both) { loses(b.t, b.s, 1000010, quick(), api.OK, b.d.lose(1000010, quick())...) },
		func(b *both) { b.s.Discard(); b.d.discard() },
	}
	sequences := 1
	for range length {
		sequences *= len(steps)
	}
	for sequence := range sequences {
		b := &both{t: t, s: made(t, 4, list[:3]...), d: definedNew(4), gone: set{}}
		for _, p := range list[:3] {
			b.d.sent(p)
		}
		for rest, i := sequence, 0; i < length; rest, i = rest/len(steps), i+1 {
			steps[rest%len(steps)](b)
		}
		b.matches()
		b.matchesSets(0)
		if t.Failed() {
			t.Fatalf("sequence %d", sequence)
		}
	}
}

// P17.1: a series of sent packets alone, and of wrong ones, beside the definition.
func TestSentSeries(t *testing.T) {
	source := rand.New(rand.NewSource(174))
	values := []int{-1, 0, 1, 2, 3, 5, 8, 100, 65535, 65536, most - 2, most - 1, most, most + 1}
	for range 300 {
		room := 1 + source.Intn(6)
		b := &both{t: t, s: made(t, room), d: definedNew(room)}
		for range 30 {
			pick := func() int { return values[source.Intn(len(values))] }
			p := api.Packet{Number: pick(), Time: pick(), Size: pick(), Eliciting: source.Intn(2) > 0, Flight: source.Intn(2) > 0}
			sends(t, b.s, p, b.d.sent(p))
			b.matches()
		}
		if !slices.IsSortedFunc(b.s.All(), func(x, y api.Packet) int { return x.Number - y.Number }) {
			t.Errorf("got %v", b.s.All())
		}
	}
}
