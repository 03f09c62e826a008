package space_test

import (
	"math"
	"slices"
	"testing"

	"sounder/api"
	"sounder/space"
)

// slow is an estimate whose wait is 9000000.
func slow() api.Rtt { return api.Rtt{Latest: 8000000, Min: 1, Smooth: 800} }

// P17.2: what is remembered, and from when on it is forgotten: when an ACK comes, and
// the oldest packet before that ACK is above it.
func TestForget(t *testing.T) {
	s := made(t, 9, packets(3, 5, 7, 8, 9)...)
	acks(t, s, ack(5, 5), api.OK, packets(5)...)
	checkRemembered(t, s, 1, 11, 5)
	acks(t, s, ack(3, 3), api.OK, packets(3)...)
	checkRemembered(t, s, 1, 11, 3, 5)
	acks(t, s, ack(8, 8), api.OK, packets(8)...)
	checkRemembered(t, s, 1, 11, 8)
	acks(t, s, ack(7, 9, 5, 5, 3, 3), api.OK, packets(7, 9)...)
	checkRemembered(t, s, 1, 11, 3, 5, 7, 8, 9)
	acks(t, s, ack(9, 9, 5, 5), api.OK)
	checkRemembered(t, s, 1, 11, 5, 9)
	sends(t, s, packet(11, 1), api.OK)
	checkRemembered(t, s, 1, 11, 5, 9)
	acks(t, s, ack(3, 3), api.OK)
	checkRemembered(t, s, 1, 12, 3)
}

// P17.2: the number of the oldest packet itself, and those above it, stay.
func TestForgetEdge(t *testing.T) {
	s := made(t, 9, packets(2, 3, 4, 5, 6)...)
	acks(t, s, ack(3, 5), api.OK, packets(3, 4, 5)...)
	s.Lose(0, quick())
	stands(t, s, 6, 5, never, 60, packets(6)...)
	checkRemembered(t, s, 1, 9, 3, 4, 5)
	sends(t, s, packet(7, 1), api.OK)
	acks(t, s, ack(6, 6), api.OK, packets(6)...)
	checkRemembered(t, s, 1, 9, 6)
	acks(t, s, ack(7, 7, 2, 5), api.OK, packet(7, 1))
	checkRemembered(t, s, 1, 9, 2, 3, 4, 5, 7)
}

// P17.2: an ACK that is refused forgets nothing; nor do Lose, Persists, and Discard.
func TestRememberedStay(t *testing.T) {
	s := made(t, 9, packets(1, 2, 3, 4, 5, 6, 7)...)
	acks(t, s, ack(3, 4, 1, 1), api.OK, packets(1, 3, 4)...)
	loses(t, s, 0, quick(), api.OK)
	sends(t, s, packet(8, 1), api.OK)
	acks(t, s, ack(6, 6), api.OK, packets(6)...)
	checkRemembered(t, s, 1, 9, 3, 4, 6)
	loses(t, s, api.MaxTime, quick(), api.OK, packets(2, 5)...)
	acks(t, s, ack(9, 9), api.ErrUnsent)
	acks(t, s, api.Ack{}, api.ErrArg)
	checkRemembered(t, s, 1, 9, 3, 4, 6)
	s.Discard()
	checkRemembered(t, s, 1, 9, 3, 4, 6)
	sends(t, s, packet(10, 1), api.OK)
	checkRemembered(t, s, 1, 9, 3, 4, 6)
	acks(t, s, ack(10, 10), api.OK, packet(10, 1))
	checkRemembered(t, s, 1, 11, 10)
}

// P17.2: without packets all is forgotten, the greatest number that there is, too:
// else there would be no room for the least one of 256 ranges.
func TestForgetGreatestNumber(t *testing.T) {
	s := made(t, 9, packets(1, 2, 3)...)
	var a api.Ack
	for n := 5; n < 5+2*254; n += 2 {
		s.Discard()
		sends(t, s, packet(n, n), api.OK)
		a.Ranges = slices.Insert(a.Ranges, 0, api.Range{Lo: n, Hi: n})
	}
	s.Discard()
	sends(t, s, packet(most, 1), api.OK)
	acks(t, s, ack(most, most), api.OK, packet(most, 1))
	a.Ranges = append(a.Ranges, ack(3, 3, 1, 1).Ranges...)
	if len(a.Ranges) != api.MaxRoom {
		t.Fatalf("%d ranges", len(a.Ranges))
	}
	acks(t, s, a, api.OK)
	checkRemembered(t, s, 1, 6, 1, 3, 5)
}

// full is a space whose remembered numbers have a number of ranges. The packets from
// 0 to 9 are not acknowledged, nor are the even numbers from 10 to 308; all odd ones
// are from 11 on, those above 308 without even ones between them.
func full(t *testing.T, ranges int) *space.Space {
	t.Helper()
	s := made(t, 256, packets(0, 1, 2, 3, 4, 5, 6, 7, 8, 9)...)
	for i := range ranges {
		n := 10 + 2*i
		if n <= 308 {
			sends(t, s, packet(n, n), api.OK)
		}
		sends(t, s, packet(n+1, n), api.OK)
		acks(t, s, ack(n+1, n+1), api.OK, packet(n+1, n))
	}
	return s
}

// P17.2: while there is room, ranges are remembered, the greatest one first; the
// others are ignored, but their packets are acknowledged.
func TestRememberedLimit(t *testing.T) {
	s := full(t, 255)
	checkRemembered(t, s, 515, 525, 515, 517, 519)
	list := []api.Packet{packet(521, 1), packet(523, 2), packet(525, 3)}
	for _, p := range list {
		sends(t, s, p, api.OK)
	}
	acks(t, s, ack(525, 525, 523, 523, 521, 521, 5, 5), api.OK, append(packets(5), list...)...)
	checkRemembered(t, s, 515, 527, 515, 517, 519, 525)
	checkRemembered(t, s, 1, 12, 11)
	if s.Greatest() != 525 {
		t.Errorf("got %d", s.Greatest())
	}
	sends(t, s, packet(527, 4), api.OK)
	acks(t, s, ack(527, 527), api.OK, packet(527, 4))
	checkRemembered(t, s, 521, 529, 525)
	if s.Greatest() != 527 {
		t.Errorf("got %d", s.Greatest())
	}
}

// P17.2: below a range that is ignored, one that touches what is remembered needs no
// room, and one that fills a gap makes room for a further one.
func TestRememberedLimitPerRange(t *testing.T) {
	s := full(t, 256)
	sends(t, s, packet(522, 1), api.OK)
	sends(t, s, packet(524, 2), api.OK)
	acks(t, s, ack(524, 524, 522, 522), api.OK, packet(522, 1), packet(524, 2))
	checkRemembered(t, s, 518, 526, 519, 521, 522)
	acks(t, s, ack(524, 524, 100, 100, 7, 7, 5, 5), api.OK, append(packets(5, 7), packet(100, 100))...)
	checkRemembered(t, s, 518, 526, 519, 521, 522)
	checkRemembered(t, s, 97, 103, 97, 99, 100, 101, 103)
	checkRemembered(t, s, 1, 12, 7, 11)
}

// P17.2: what is forgotten leaves room at once.
func TestForgetMakesRoom(t *testing.T) {
	s := full(t, 256)
	s.Discard()
	sends(t, s, packet(523, 1), api.OK)
	acks(t, s, ack(523, 523, 5, 5), api.OK, packet(523, 1))
	checkRemembered(t, s, 1, 525, 5, 523)
}

// P17.3, P17.5: the errors of loss.Find, in its order; nothing changes.
func TestLoseErrors(t *testing.T) {
	s := made(t, 9, packets(0, 1, 2, 3, 4)...)
	acks(t, s, ack(4, 4), api.OK, packets(4)...)
	loses(t, s, 5, slow(), api.OK, packets(0, 1)...)
	stands(t, s, 4, 4, 9000020, 40, packets(2, 3)...)
	wrong := []api.Rtt{{First: -1}, {Min: -1}, {Latest: 1, Min: 2, Smooth: 3}, {Smooth: most + 1}, {Var: -7}}
	for _, now := range noNumbers() {
		for _, r := range append(wrong, quick()) {
			loses(t, s, now, r, api.ErrRange)
		}
	}
	for _, now := range []int{0, 5, api.MaxTime} {
		for _, r := range wrong {
			loses(t, s, now, r, api.ErrArg)
			loses(t, made(t, 1), now, r, api.ErrArg)
		}
	}
	stands(t, s, 4, 4, 9000020, 40, packets(2, 3)...)
}

// P17.3: before anything is acknowledged nothing is lost, at any time; what is above
// the greatest acknowledged number never is.
func TestLoseNothing(t *testing.T) {
	s := made(t, 9, packets(3, 4, 5, 6)...)
	for _, now := range []int{0, 1000, api.MaxTime} {
		loses(t, s, now, slow(), api.OK)
		stands(t, s, 6, -1, never, 60, packets(3, 4, 5, 6)...)
	}
	acks(t, s, ack(3, 3), api.OK, packets(3)...)
	loses(t, s, api.MaxTime, slow(), api.OK)
	stands(t, s, 6, 3, never, 60, packets(4, 5, 6)...)
}

// P17.3: by number, and by time, at the edges of both.
func TestLoseEdges(t *testing.T) {
	list := []api.Packet{packet(1, 0), packet(2, 100), packet(5, 200), packet(6, 300), packet(7, 400)}
	for _, c := range []struct {
		acked, now int
		lost       []api.Packet
		loss       int
	}{
		{5, 0, list[:2], never}, {6, 0, list[:2], 9000200}, {7, 0, list[:2], 9000200},
		{2, 0, nil, 9000000}, {2, 8999999, nil, 9000000}, {2, 9000000, list[:1], never},
		{6, 9000199, list[:2], 9000200}, {6, 9000200, list[:3], never}, {7, 9000200, list[:3], 9000300}, {7, 9000300, list[:4], never},
	} {
		s := made(t, 5, list...)
		for i, p := range list {
			if p.Number == c.acked {
				acks(t, s, ack(c.acked, c.acked), api.OK, list[i])
			}
		}
		loses(t, s, c.now, slow(), api.OK, c.lost...)
		rest := slices.DeleteFunc(slices.Clone(list[len(c.lost):]), func(p api.Packet) bool { return p.Number == c.acked })
		stands(t, s, 7, c.acked, c.loss, 400, rest...)
		loses(t, s, c.now, slow(), api.OK)
		stands(t, s, 7, c.acked, c.loss, 400, rest...)
	}
}

// P17.3: a loss time is that of the last Lose, earlier or later, until Discard; it
// stays when an ACK comes, or a packet is sent, and may be the greatest time.
func TestLossTime(t *testing.T) {
	s := made(t, 9, packet(0, 100), packet(1, 200), packet(2, 300), packet(3, 400))
	acks(t, s, ack(2, 2), api.OK, packet(2, 300))
	if s.Loss() != never {
		t.Errorf("got %d", s.Loss())
	}
	loses(t, s, 500, slow(), api.OK)
	stands(t, s, 3, 2, 9000100, 400, packet(0, 100), packet(1, 200), packet(3, 400))
	loses(t, s, 500, quick(), api.OK)
	stands(t, s, 3, 2, 1000100, 400, packet(0, 100), packet(1, 200), packet(3, 400))
	acks(t, s, ack(0, 0), api.OK, packet(0, 100))
	sends(t, s, packet(4, 600), api.OK)
	stands(t, s, 4, 2, 1000100, 600, packet(1, 200), packet(3, 400), packet(4, 600))
	loses(t, s, 500, slow(), api.OK)
	stands(t, s, 4, 2, 9000200, 600, packet(1, 200), packet(3, 400), packet(4, 600))
	acks(t, s, ack(1, 1), api.OK, packet(1, 200))
	loses(t, s, 500, slow(), api.OK)
	stands(t, s, 4, 2, never, 600, packet(3, 400), packet(4, 600))
	late := api.Rtt{Latest: api.MaxTime, Smooth: api.MaxTime}
	acks(t, s, ack(4, 4), api.OK, packet(4, 600))
	loses(t, s, api.MaxTime, late, api.OK)
	stands(t, s, 4, 4, api.MaxTime, 600, packet(3, 400))
}

// P17.3: Persists is persist.Is: the estimate, the delay and the list count.
func TestPersists(t *testing.T) {
	s := made(t, 9, packets(1, 2, 3, 4, 5, 6)...)
	acks(t, s, ack(4, 4), api.OK, packets(4)...)
	lost := across(1, 3)
	if !s.Persists(lost, quick(), 0) || !s.Persists(across(4, 6), quick(), 0) || !s.Persists(across(2, 4), quick(), 0) {
		t.Error("it does not persist")
	}
	for name, is := range map[string]bool{
		"across what is acknowledged": s.Persists(across(3, 5), quick(), 0),
		"no packets":                  s.Persists(nil, quick(), 0),
		"one packet":                  s.Persists(lost[:1], quick(), 0),
		"a greater delay":             s.Persists(lost, quick(), 1),
		"a greater estimate":          s.Persists(lost, api.Rtt{Smooth: 1}, 0),
		"a later first sample":        s.Persists(lost, api.Rtt{First: 1}, 0),
		"no sample":                   s.Persists(lost, api.Rtt{Smooth: api.Milli, Var: api.Milli / 2, First: never}, 0),
		"no estimate":                 s.Persists(lost, api.Rtt{Min: -1}, 0),
		"falling numbers":             s.Persists([]api.Packet{lost[1], lost[0]}, quick(), 0),
	} {
		if is {
			t.Errorf("it persists: %s", name)
		}
	}
	if !s.Persists(lost, quick(), math.MinInt) || s.Persists(lost, quick(), math.MaxInt) {
		t.Error("the delay at the edges")
	}
	stands(t, s, 6, 4, never, 60, packets(1, 2, 3, 5, 6)...)
}

// P17.4: Discard, and what stays.
func TestDiscard(t *testing.T) {
	s := made(t, 3, packets(1, 2, 3)...)
	acks(t, s, ack(3, 3), api.OK, packets(3)...)
	loses(t, s, 20, slow(), api.OK)
	stands(t, s, 3, 3, 9000010, 30, packets(1, 2)...)
	for range 2 {
		s.Discard()
		stands(t, s, 3, 3, never, never)
		checkRemembered(t, s, 1, 6, 3)
	}
	loses(t, s, api.MaxTime, slow(), api.OK)
	acks(t, s, ack(0, 0), api.ErrUnsent)
	sends(t, s, packet(3, 40), api.ErrNumber)
	for n := 4; n <= 6; n++ {
		sends(t, s, packet(n, 10*n), api.OK)
	}
	sends(t, s, packet(7, 70), api.ErrLimit)
	stands(t, s, 6, 3, never, 60, packets(4, 5, 6)...)
	acks(t, s, ack(1, 3), api.OK)
	stands(t, s, 6, 3, never, 60, packets(4, 5, 6)...)
}

// P17.4: All, Flight and Eliciting for each kind of packet.
func TestTotals(t *testing.T) {
	var list []api.Packet
	for i := range 8 {
		list = append(list, api.Packet{Number: 2 * i, Time: 1000 - i, Size: 1 << i, Eliciting: i&1 == 1, Flight: i&2 == 2, Ect: i&4 == 4})
	}
	s := made(t, 8, list...)
	stands(t, s, 14, -1, never, 993, list...)
	if s.Flight() != 4+8+64+128 || s.Eliciting() != 2 {
		t.Errorf("got Flight %d, Eliciting %d", s.Flight(), s.Eliciting())
	}
	acks(t, s, ack(12, 12, 6, 6), api.OK, list[3], list[6])
	if s.Flight() != 4+128 || s.Eliciting() != 1 {
		t.Errorf("got Flight %d, Eliciting %d", s.Flight(), s.Eliciting())
	}
	loses(t, s, 0, quick(), api.OK, list[0], list[1], list[2], list[4])
	stands(t, s, 14, 12, 1000995, 993, list[5], list[7])
}

// changes are what can happen to a space with the packets 1, 2, 3, 5, 6 and room for
// six, of which 3 was acknowledged; the packets that are left then.
func changes(t *testing.T) map[string]func(s *space.Space) {
	return map[string]func(s *space.Space){
		"one more":     func(s *space.Space) { sends(t, s, packet(7, 70), api.OK) },
		"one far away": func(s *space.Space) { sends(t, s, packet(99, 5), api.OK) },
		"acknowledged": func(s *space.Space) { acks(t, s, ack(5, 6), api.OK, packets(5, 6)...) },
		"merged":       func(s *space.Space) { acks(t, s, ack(2, 2), api.OK, packets(2)...) },
		"lost":         func(s *space.Space) { loses(t, s, 5000000, quick(), api.OK, packets(1, 2)...) },
		"none lost":    func(s *space.Space) { loses(t, s, 30, slow(), api.OK) },
		"discarded":    func(s *space.Space) { s.Discard() },
		"forgotten":    func(s *space.Space) { s.Discard(); acks(t, s, ack(5, 5), api.OK) },
	}
}

// P17.4: what happens to a space does not happen to its copy, nor the other way round.
func TestCopy(t *testing.T) {
	for name, change := range changes(t) {
		s := made(t, 6, packets(1, 2, 3, 5, 6)...)
		acks(t, s, ack(3, 3), api.OK, packets(3)...)
		c := s.Copy()
		checkCopied(t, c)
		change(c)
		checkCopied(t, s)
		changed := standOf(c)
		again := s.Copy()
		change(s)
		checkCopied(t, again)
		checkSame(t, c, changed)
		checkSame(t, s, changed)
		for n := range 110 {
			if knows(s, n) != knows(c, n) || n > 0 && remembers(s, n) != remembers(c, n) {
				t.Errorf("%d: known %v, %v, remembered %v, %v", n, knows(s, n), knows(c, n), remembers(s, n), remembers(c, n))
			}
		}
		if t.Failed() {
			t.Fatalf("after the change %q", name)
		}
	}
}

// checkCopied checks that nothing happened yet.
func checkCopied(t *testing.T, s *space.Space) {
	t.Helper()
	stands(t, s, 6, 3, never, 60, packets(1, 2, 5, 6)...)
	checkRemembered(t, s, 1, 9, 3)
	for n := range 110 {
		if knows(s, n) != slices.Contains([]int{1, 2, 3, 5, 6}, n) {
			t.Errorf("known %d: %v", n, knows(s, n))
		}
	}
}

// P17.4: a copy has the capacities, too.
func TestCopyKeepsAll(t *testing.T) {
	s := made(t, 3, packets(1, 2, 3)...)
	acks(t, s, ack(2, 2), api.OK, packets(2)...)
	loses(t, s, 20, slow(), api.OK)
	c := s.Copy()
	stands(t, c, 3, 2, 9000010, 30, packets(1, 3)...)
	sends(t, c, packet(4, 40), api.OK)
	sends(t, c, packet(5, 50), api.ErrLimit)
	stands(t, s, 3, 2, 9000010, 30, packets(1, 3)...)
	limited := evens(t, 9).Copy()
	limited.Discard()
	sends(t, limited, packet(512, 1), api.ErrLimit)
	remembering := full(t, 256).Copy()
	sends(t, remembering, packet(523, 1), api.OK)
	acks(t, remembering, ack(523, 523), api.OK, packet(523, 1))
	checkRemembered(t, remembering, 519, 525, 519, 521)
}

// P17.5: arguments are only read, including what lies behind their ends.
func TestArgumentsAreRead(t *testing.T) {
	s := made(t, 9, packets(0, 1, 2, 3, 4)...)
	given := ack(4, 4, 2, 2, 0, 0, 77, 78, 79, 80).Ranges
	before := slices.Clone(given)
	a := api.Ack{Ranges: given[:3]}
	acks(t, s, a, api.OK, packets(0, 2, 4)...)
	if !slices.Equal(given, before) {
		t.Errorf("the ranges became %v", given)
	}
	for i := range given {
		given[i] = api.Range{Lo: 3, Hi: 3}
	}
	checkRemembered(t, s, 1, 6, 2, 4)
	lost := append(across(1, 3), packet(9, 9), packet(8, 8))
	kept := slices.Clone(lost)
	if s.Persists(lost[:2], quick(), 0) || !slices.Equal(lost, kept) {
		t.Errorf("the packets became %v", lost)
	}
}

// P17.5: the lists that were returned are the caller's.
func TestListsAreNew(t *testing.T) {
	lists := map[string]func(s *space.Space) []api.Packet{
		"All":  func(s *space.Space) []api.Packet { return s.All() },
		"Ack":  func(s *space.Space) []api.Packet { l, _ := s.Ack(ack(7, 8, 2, 3)); return l },
		"Lose": func(s *space.Space) []api.Packet { l, _ := s.Lose(0, quick()); return l },
	}
	for name, list := range lists {
		s := made(t, 9, packets(1, 2, 3, 4, 5, 6, 7, 8)...)
		acks(t, s, ack(6, 6), api.OK, packets(6)...)
		c := s.Copy()
		given := list(s)
		if len(given) < 3 {
			t.Errorf("%s: got %v", name, given)
		}
		want := standOf(s)
		for i := range given[:cap(given)] {
			given[:cap(given)][i] = packet(77, 7)
		}
		checkSame(t, s, want)
		given = list(c)
		kept := slices.Clone(given)
		c.Discard()
		sends(t, c, packet(9, 9), api.OK)
		if len(kept) < 3 || !slices.Equal(given, kept) {
			t.Errorf("%s: a result became %v", name, given)
		}
	}
}
