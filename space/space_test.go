package space_test

import (
	"math"
	"slices"
	"testing"

	"sounder/api"
	"sounder/space"
)

const (
	most  = api.MaxNumber
	never = api.Never
)

// noNumbers are ints that are not numbers.
func noNumbers() []int {
	return []int{-1, -2, -256, math.MinInt, math.MinInt + 1, most + 1, most + 2, 1 << 62, math.MaxInt - 1, math.MaxInt}
}

// noSpaces are the objects that are no space.
func noSpaces() map[string]*space.Space {
	return map[string]*space.Space{"nil": nil, "zero": {}}
}

// quick is an estimate whose wait is 1000000, and 3000000 its persistent congestion.
func quick() api.Rtt { return api.Rtt{} }

// packet is one of 100 bytes that is under way and must be acknowledged.
func packet(n, at int) api.Packet {
	return api.Packet{Number: n, Time: at, Size: 100, Eliciting: true, Flight: true}
}

// packets are such ones, each sent at the time that is ten times its number.
func packets(numbers ...int) []api.Packet {
	var l []api.Packet
	for _, n := range numbers {
		l = append(l, packet(n, 10*n))
	}
	return l
}

// ack is one with ranges that are told by their ends, the greatest one first.
func ack(ends ...int) api.Ack {
	var a api.Ack
	for i := 0; i < len(ends); i += 2 {
		a.Ranges = append(a.Ranges, api.Range{Lo: ends[i], Hi: ends[i+1]})
	}
	return a
}

// made is a space with room for so many packets, in which some were sent.
func made(t *testing.T, room int, list ...api.Packet) *space.Space {
	t.Helper()
	s, e := space.New(room)
	if s == nil || e != api.OK {
		t.Fatalf("New(%d): got %v, error %d", room, s, e)
	}
	for _, p := range list {
		sends(t, s, p, api.OK)
	}
	return s
}

// sends also asks May, twice, as it must not change anything.
func sends(t *testing.T, s *space.Space, p api.Packet, want api.Errno) {
	t.Helper()
	before := standOf(s)
	for range 2 {
		if e := s.May(p); e != want {
			t.Errorf("May(%+v) of %v: error %d, want %d", p, before, e, want)
		}
		checkSame(t, s, before)
	}
	if e := s.Sent(p); e != want {
		t.Errorf("Sent(%+v) of %v: error %d, want %d", p, before, e, want)
	}
	if want != api.OK {
		checkSame(t, s, before)
	}
}

func acks(t *testing.T, s *space.Space, a api.Ack, want api.Errno, list ...api.Packet) {
	t.Helper()
	before := standOf(s)
	if l, e := s.Ack(a); e != want || !slices.Equal(l, list) {
		t.Errorf("Ack(%+v) of %v: got %v, error %d, want %v, %d", a, before, l, e, list, want)
	}
	if want != api.OK {
		checkSame(t, s, before)
	}
}

func loses(t *testing.T, s *space.Space, now int, r api.Rtt, want api.Errno, list ...api.Packet) {
	t.Helper()
	before := standOf(s)
	if l, e := s.Lose(now, r); e != want || !slices.Equal(l, list) {
		t.Errorf("Lose(%d, %+v) of %v: got %v, error %d, want %v, %d", now, r, before, l, e, list, want)
	}
	if want != api.OK {
		checkSame(t, s, before)
	}
}

// stand is what a space tells of itself.
type stand struct {
	last, greatest, loss, time int
	flight, eliciting          int
	all                        []api.Packet
}

func standOf(s *space.Space) stand {
	return stand{s.Last(), s.Greatest(), s.Loss(), s.Time(), s.Flight(), s.Eliciting(), s.All()}
}

func checkSame(t *testing.T, s *space.Space, want stand) {
	t.Helper()
	got := standOf(s)
	all := slices.Equal(got.all, want.all)
	got.all, want.all = nil, nil
	if !all || !sameNumbers(got, want) {
		t.Errorf("got %+v, %v, want %+v", got, s.All(), want)
	}
}

func sameNumbers(a, b stand) bool {
	return a.last == b.last && a.greatest == b.greatest && a.loss == b.loss && a.time == b.time && a.flight == b.flight && a.eliciting == b.eliciting
}

// stands checks a space's numbers and times, its packets, and their totals.
func stands(t *testing.T, s *space.Space, last, greatest, loss, time int, all ...api.Packet) {
	t.Helper()
	want := stand{last: last, greatest: greatest, loss: loss, time: time, all: all}
	for _, p := range all {
		if p.Flight {
			want.flight += p.Size
		}
		if p.Flight && p.Eliciting {
			want.eliciting++
		}
	}
	checkSame(t, s, want)
}

// knows tells whether a number was ever sent: a copy is told that it is acknowledged.
func knows(s *space.Space, n int) bool {
	_, e := s.Copy().Ack(ack(n, n))
	return e == api.OK
}

// remembers tells whether a number from 1 to most - 1 is a remembered one: nothing
// can persist across it.
func remembers(s *space.Space, n int) bool {
	return !s.Persists(across(n-1, n+1), quick(), 0)
}

// across are two packets that are so far apart that it persists between them.
func across(a, b int) []api.Packet {
	return []api.Packet{
		{Number: a, Time: 1, Size: 1, Eliciting: true},
		{Number: b, Time: 3000002, Size: 1, Eliciting: true},
	}
}

// checkRemembered checks which ones of the numbers around some are remembered.
func checkRemembered(t *testing.T, s *space.Space, from, to int, want ...int) {
	t.Helper()
	for n := max(from, 1); n <= min(to, most-1); n++ {
		if is := remembers(s, n); is != slices.Contains(want, n) {
			t.Errorf("remembered %d: got %v, want %v", n, is, want)
		}
	}
}

// The chapter's examples.
func TestExamples(t *testing.T) {
	s := made(t, 4, packet(0, 10), packet(1, 20), packet(2, 30), packet(5, 40))
	sends(t, s, packet(6, 50), api.ErrLimit)
	sends(t, s, packet(5, 50), api.ErrNumber)
	stands(t, s, 5, -1, never, 40, packet(0, 10), packet(1, 20), packet(2, 30), packet(5, 40))
	if s.Last() != 5 || s.Flight() != 400 || s.Time() != 40 {
		t.Errorf("got Last %d, Flight %d, Time %d", s.Last(), s.Flight(), s.Time())
	}
	acks(t, s, ack(4, 5), api.ErrUnsent)
	acks(t, s, ack(5, 5), api.OK, packet(5, 40))
	stands(t, s, 5, 5, never, 40, packet(0, 10), packet(1, 20), packet(2, 30))
	loses(t, s, 50, api.Rtt{Smooth: 100, Latest: 100, Min: 1}, api.OK, packet(0, 10), packet(1, 20), packet(2, 30))
	stands(t, s, 5, 5, never, 40)
	acks(t, s, ack(0, 2), api.OK)
	stands(t, s, 5, 5, never, 40)
}

// The promises' first line: a nil and a zero Space, in each method.
func TestNoSpace(t *testing.T) {
	for name, s := range noSpaces() {
		for range 2 {
			for _, p := range []api.Packet{packet(0, 0), packet(-1, 0), {}} {
				sends(t, s, p, api.ErrNil)
			}
			for _, a := range []api.Ack{{}, ack(0, 0), ack(1, 0)} {
				acks(t, s, a, api.ErrNil)
			}
			loses(t, s, 5, quick(), api.ErrNil)
			loses(t, s, -1, api.Rtt{Min: -1}, api.ErrNil)
			if s.Persists(across(3, 5), quick(), 0) || s.Persists(nil, api.Rtt{}, -1) {
				t.Errorf("%s: it persists", name)
			}
			s.Discard()
			stands(t, s, -1, -1, -1, -1)
			if s.Copy() != nil {
				t.Errorf("%s: there is a copy", name)
			}
		}
	}
}

// P17.1: which capacities there are, and that each one is used.
func TestNew(t *testing.T) {
	for _, room := range []int{1, 2, 3, 8, 100, 255, 256} {
		s := made(t, room)
		stands(t, s, -1, -1, never, never)
		for n := range room {
			sends(t, s, packet(n, n), api.OK)
		}
		sends(t, s, packet(room, room), api.ErrLimit)
		stands(t, made(t, room), -1, -1, never, never)
	}
	for _, room := range []int{0, -1, -2, -256, 257, 258, 512, 1 << 32, 1<<32 + 1, most, math.MinInt, math.MaxInt} {
		if s, e := space.New(room); s != nil || e != api.ErrArg {
			t.Errorf("New(%d): got %v, error %d", room, s, e)
		}
	}
}

// P17.1: a space that has nothing knows nothing and remembers nothing.
func TestNewKnowsNothing(t *testing.T) {
	s := made(t, 3)
	for _, n := range []int{0, 1, 2, 1000, most - 1, most} {
		acks(t, s, ack(n, n), api.ErrUnsent)
	}
	checkRemembered(t, s, 0, 20)
	loses(t, s, most, quick(), api.OK)
	s.Discard()
	stands(t, s, -1, -1, never, never)
}

// wrongPackets are packets that are not valid, by one part each.
func wrongPackets(n int) []api.Packet {
	var l []api.Packet
	for _, wrong := range noNumbers() {
		number, time, size := packet(n, 7), packet(n, 7), packet(n, 7)
		number.Number, time.Time, size.Size = wrong, wrong, wrong
		l = append(l, number, time, size)
	}
	for _, wrong := range []int{0, api.MaxSize + 1, 1 << 32} {
		p := packet(n, 7)
		p.Size = wrong
		l = append(l, p)
	}
	return append(l, api.Packet{})
}

// P17.1, P17.5: the errors of sent.Put, in its order, in a space with room and in a
// full one; each changes nothing.
func TestSentErrors(t *testing.T) {
	for _, room := range []int{2, 3} {
		s := made(t, room, packets(10, 20)...)
		for _, n := range []int{0, 10, 15, 20, 21, most} {
			for _, p := range wrongPackets(n) {
				sends(t, s, p, api.ErrArg)
			}
		}
		for _, n := range []int{0, 9, 10, 11, 19, 20} {
			sends(t, s, packet(n, 7), api.ErrNumber)
		}
		if room == 2 {
			sends(t, s, packet(21, 7), api.ErrLimit)
			sends(t, s, packet(most, 7), api.ErrLimit)
		}
		stands(t, s, 20, -1, never, 200, packets(10, 20)...)
		for _, n := range []int{0, 9, 11, 15, 19, 21, most} {
			if knows(s, n) {
				t.Errorf("%d is known", n)
			}
		}
	}
}

// P17.1: the edges of what a packet may be, each in a space of its own.
func TestSentEdges(t *testing.T) {
	for _, p := range []api.Packet{
		{Number: 0, Time: 0, Size: 1, Eliciting: true, Flight: true},
		{Number: most, Time: api.MaxTime, Size: api.MaxSize, Eliciting: true, Flight: true, Ect: true},
		{Number: most - 1, Time: 0, Size: api.MaxSize, Eliciting: true, Flight: true},
		{Number: 1, Time: api.MaxTime, Size: 1, Eliciting: true, Flight: true, Ect: true},
	} {
		s := made(t, 1, p)
		stands(t, s, p.Number, -1, never, p.Time, p)
		if !knows(s, p.Number) {
			t.Errorf("%d is not known", p.Number)
		}
		acks(t, s, ack(p.Number, p.Number), api.OK, p)
		stands(t, s, p.Number, p.Number, never, p.Time)
	}
}

// P17.1: which packets set the time of the space: the last one, not the latest one.
func TestTime(t *testing.T) {
	s := made(t, 9)
	for i, c := range []struct {
		time              int
		eliciting, flight bool
		want              int
	}{
		{5, false, false, never}, {6, true, false, never}, {7, false, true, never},
		{50, true, true, 50}, {60, false, true, 50}, {70, true, false, 50}, {80, false, false, 50},
		{20, true, true, 20}, {0, true, true, 0},
	} {
		sends(t, s, api.Packet{Number: i, Time: c.time, Size: 1, Eliciting: c.eliciting, Flight: c.flight}, api.OK)
		if s.Time() != c.want {
			t.Errorf("after %+v: got Time %d", c, s.Time())
		}
	}
	s.Ack(ack(0, 8))
	s.Lose(api.MaxTime, quick())
	if s.Time() != 0 || len(s.All()) > 0 {
		t.Errorf("got Time %d with %v", s.Time(), s.All())
	}
}

// evens is a space that sent the 256 even numbers from 0 to 510: its known numbers
// have as many ranges as they can.
func evens(t *testing.T, room int) *space.Space {
	t.Helper()
	s := made(t, room)
	for n := 0; n < 2*api.MaxRoom; n += 2 {
		if len(s.All()) == room {
			s.Discard()
		}
		sends(t, s, packet(n, n), api.OK)
	}
	return s
}

// P17.1: the known numbers have at most 256 ranges, whatever becomes of the packets.
func TestKnownLimit(t *testing.T) {
	for _, room := range []int{1, 2, 256} {
		s := evens(t, room)
		s.Discard()
		for _, n := range []int{512, 513, 1000, most} {
			sends(t, s, packet(n, 9), api.ErrLimit)
			if knows(s, n) {
				t.Errorf("%d is known", n)
			}
		}
		sends(t, s, packet(most+1, 9), api.ErrArg)
		sends(t, s, packet(-1, 9), api.ErrArg)
		sends(t, s, packet(509, 9), api.ErrNumber)
		sends(t, s, packet(510, 9), api.ErrNumber)
		stands(t, s, 510, -1, never, never)
		sends(t, s, packet(511, 7), api.OK)
		stands(t, s, 511, -1, never, 7, packet(511, 7))
		acks(t, s, ack(511, 511), api.OK, packet(511, 7))
		sends(t, s, packet(513, 9), api.ErrLimit)
		sends(t, s, packet(512, 8), api.OK)
		stands(t, s, 512, 511, never, 8, packet(512, 8))
	}
}

// P17.1: that limit comes last of all errors, also for numbers that are far from all
// known ones.
func TestKnownLimitIsLast(t *testing.T) {
	s := made(t, 1)
	for n := 100; n < 100+8*api.MaxRoom; n += 8 {
		s.Discard()
		sends(t, s, packet(n, n), api.OK)
	}
	for range 2 {
		for _, n := range []int{0, 50, 104, 2148, 3000, most} {
			for _, p := range wrongPackets(n) {
				sends(t, s, p, api.ErrArg)
			}
		}
		for _, n := range []int{0, 50, 96, 104, 112, 2132, 2136, 2140} {
			sends(t, s, packet(n, 7), api.ErrNumber)
		}
		sends(t, s, packet(2148, 7), api.ErrLimit)
		s.Discard()
	}
}

// P17.1: one range less, and a range that can still grow, are no limit.
func TestBelowKnownLimit(t *testing.T) {
	s := made(t, 1)
	for n := 0; n < 2*255; n += 2 {
		s.Discard()
		sends(t, s, packet(n, n), api.OK)
	}
	s.Discard()
	sends(t, s, packet(most-1, 1), api.OK)
	s.Discard()
	sends(t, s, packet(most, 2), api.OK)
	stands(t, s, most, -1, never, 2, packet(most, 2))
	s.Discard()
	sends(t, s, packet(most, 3), api.ErrNumber)
	acks(t, s, ack(most-1, most), api.OK)
}

// wrongAcks are ACKs that are not valid.
func wrongAcks() []api.Ack {
	many := api.Ack{}
	for i := range api.MaxRoom + 1 {
		many.Ranges = append(many.Ranges, api.Range{Lo: 2000 - 2*i, Hi: 2000 - 2*i})
	}
	return []api.Ack{
		{}, {Delay: 1}, {Ranges: []api.Range{}}, many,
		ack(3, 2), ack(-1, 3), ack(0, most+1), ack(math.MinInt, math.MaxInt), ack(1, 1, 3, 3), ack(3, 3, 2, 2), ack(3, 3, 3, 3), ack(3, 3, 1, 0), ack(3, 3, -1, 0),
		{Delay: -1, Ranges: ack(3, 3).Ranges}, {Delay: most + 1, Ranges: ack(3, 3).Ranges},
		{Ranges: ack(3, 3).Ranges, Ecn: [3]int{1, 0, 0}}, {Ranges: ack(3, 3).Ranges, Ecn: [3]int{0, 0, 1}},
		{Ranges: ack(3, 3).Ranges, Marked: true, Ecn: [3]int{0, -1, 0}}, {Ranges: ack(3, 3).Ranges, Marked: true, Ecn: [3]int{most + 1, 0, 0}},
	}
}

// P17.2, P17.5: an ACK that is not valid is ErrArg, also if it has numbers that were
// never sent; nothing changes, and nothing is remembered.
func TestWrongAcks(t *testing.T) {
	for _, s := range []*space.Space{made(t, 5), made(t, 5, packets(0, 1, 2, 3, 4)...)} {
		for _, a := range wrongAcks() {
			acks(t, s, a, api.ErrArg)
		}
		checkRemembered(t, s, 0, 6)
	}
}

// P17.2: what else an ACK has does not matter.
func TestAckParts(t *testing.T) {
	for _, a := range []api.Ack{{Delay: most}, {Marked: true}, {Marked: true, Ecn: [3]int{most, most, most}}} {
		s := made(t, 5, packets(0, 1, 2, 3)...)
		a.Ranges = ack(3, 3, 0, 1).Ranges
		acks(t, s, a, api.OK, packets(0, 1, 3)...)
		stands(t, s, 3, 3, never, 30, packets(2)...)
	}
}

// P17.2, P17.5: all numbers in all ranges must be known; else nothing changes, and
// nothing is remembered or forgotten.
func TestUnsent(t *testing.T) {
	s := made(t, 9, packets(2, 3, 4, 7, 8, 11)...)
	acks(t, s, ack(8, 8), api.OK, packets(8)...)
	for _, a := range []api.Ack{
		ack(0, 0), ack(1, 1), ack(5, 5), ack(6, 6), ack(9, 9), ack(10, 10), ack(12, 12), ack(most, most), ack(0, most),
		ack(1, 2), ack(1, 4), ack(2, 5), ack(4, 7), ack(3, 8), ack(6, 7), ack(7, 9), ack(10, 11), ack(11, 12), ack(2, 11), ack(11, most),
		ack(11, 11, 7, 8, 2, 5), ack(11, 11, 7, 8, 1, 4), ack(11, 11, 6, 8, 2, 4), ack(10, 11, 7, 8, 2, 4), ack(11, 12, 7, 8, 2, 4),
		ack(11, 11, 9, 9, 7, 7), ack(11, 11, 7, 7, 5, 5), ack(13, 13, 11, 11), ack(11, 11, 0, 0),
	} {
		acks(t, s, a, api.ErrUnsent)
	}
	stands(t, s, 11, 8, never, 110, packets(2, 3, 4, 7, 11)...)
	checkRemembered(t, s, 0, 14, 8)
	acks(t, s, ack(11, 11, 7, 8, 2, 4), api.OK, packets(2, 3, 4, 7, 11)...)
	stands(t, s, 11, 11, never, 110)
}

// P17.2: numbers are known for good: when they were acknowledged, lost, or discarded.
func TestKnownForGood(t *testing.T) {
	s := made(t, 9, packets(0, 1, 2, 3, 6, 7)...)
	acks(t, s, ack(3, 3), api.OK, packets(3)...)
	loses(t, s, 0, quick(), api.OK, packets(0)...)
	acks(t, s, ack(0, 3), api.OK, packets(1, 2)...)
	s.Discard()
	acks(t, s, ack(7, 7, 0, 3), api.OK)
	stands(t, s, 7, 7, never, never)
	acks(t, s, ack(4, 4), api.ErrUnsent)
	acks(t, s, ack(6, 7), api.OK)
	acks(t, s, ack(8, 8), api.ErrUnsent)
}

// P17.2: numbers up to the greatest one that there is.
func TestGreatestNumbers(t *testing.T) {
	s := made(t, 5, packet(0, 1), packet(most-2, 2), packet(most-1, 3), packet(most, 4))
	acks(t, s, ack(most-3, most), api.ErrUnsent)
	acks(t, s, ack(1, most), api.ErrUnsent)
	acks(t, s, ack(most, most), api.OK, packet(most, 4))
	stands(t, s, most, most, never, 4, packet(0, 1), packet(most-2, 2), packet(most-1, 3))
	loses(t, s, 3, quick(), api.OK, packet(0, 1))
	stands(t, s, most, most, 1000002, 4, packet(most-2, 2), packet(most-1, 3))
	checkRemembered(t, s, most-5, most)
	acks(t, s, ack(most-2, most, 0, 0), api.OK, packet(most-2, 2), packet(most-1, 3))
	checkRemembered(t, s, most-5, most, most-2, most-1)
	stands(t, s, most, most, 1000002, 4)
}

// P17.2: several ranges; the packets are returned by increasing numbers, each once.
func TestAckOrder(t *testing.T) {
	s := made(t, 20, packets(0, 1, 2, 3, 4, 5, 6, 7, 8, 9)...)
	acks(t, s, ack(9, 9, 6, 7, 4, 4, 0, 1), api.OK, packets(0, 1, 4, 6, 7, 9)...)
	stands(t, s, 9, 9, never, 90, packets(2, 3, 5, 8)...)
	acks(t, s, ack(9, 9, 6, 7, 4, 4, 0, 1), api.OK)
	acks(t, s, ack(7, 8, 0, 4), api.OK, packets(2, 3, 8)...)
	stands(t, s, 9, 9, never, 90, packets(5)...)
	acks(t, s, ack(0, 9), api.OK, packets(5)...)
	acks(t, s, ack(0, 9), api.OK)
	stands(t, s, 9, 9, never, 90)
}

// P17.2: as many ranges, and as many packets, as there can be.
func TestManyRanges(t *testing.T) {
	s := evens(t, 256)
	var a api.Ack
	for n := 510; n >= 0; n -= 2 {
		a.Ranges = append(a.Ranges, api.Range{Lo: n, Hi: n})
	}
	var all []api.Packet
	for n := 0; n <= 510; n += 2 {
		all = append(all, packet(n, n))
	}
	acks(t, s, a, api.OK, all...)
	stands(t, s, 510, 510, never, 510)
	for n := 1; n < 512; n++ {
		if remembers(s, n) != (n%2 == 0) {
			t.Errorf("remembered %d: %v", n, remembers(s, n))
		}
	}
}

// P17.2, P17.8: the greatest number does not decrease, and is that of any range.
func TestGreatest(t *testing.T) {
	s := made(t, 20, packets(0, 1, 2, 3, 4, 5, 6)...)
	for _, c := range []struct {
		a    api.Ack
		want int
	}{
		{ack(0, 0), 0}, {ack(2, 3), 3}, {ack(1, 1), 3}, {ack(0, 2), 3}, {ack(5, 5, 0, 0), 5}, {ack(4, 4, 2, 2), 5}, {ack(0, 6), 6}, {ack(0, 0), 6},
	} {
		if s.Ack(c.a); s.Greatest() != c.want {
			t.Errorf("after %v: got %d, want %d", c.a, s.Greatest(), c.want)
		}
	}
	acks(t, s, ack(7, 7), api.ErrUnsent)
	if s.Greatest() != 6 {
		t.Errorf("got %d", s.Greatest())
	}
}
