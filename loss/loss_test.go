package loss_test

import (
	"math"
	"slices"
	"testing"

	"sounder/api"
	"sounder/loss"
)

const (
	most  = api.MaxTime
	milli = 1000000
	great = 60000000000
	room  = 256
)

// noTimes are ints that are neither times nor numbers; Never is one of them.
func noTimes() []int {
	return []int{-1, -2, -256, math.MinInt, math.MinInt + 1, most + 1, most + 2, 1 << 62, math.MaxInt - 1, math.MaxInt}
}

// packet is one with a number and a time; the other fields differ from number to number.
func packet(n, time int) api.Packet {
	return api.Packet{Number: n, Time: time, Size: 1 + n%1200, Eliciting: n%2 == 0, Flight: n%3 != 0, Ect: n%5 == 0}
}

// packets are such ones, all of one time.
func packets(time int, numbers ...int) []api.Packet {
	var l []api.Packet
	for _, n := range numbers {
		l = append(l, packet(n, time))
	}
	return l
}

// rising are so many packets from a number on, without skipping any.
func rising(from, many int) []api.Packet {
	var l []api.Packet
	for n := range many {
		l = append(l, packet(from+n, 7))
	}
	return l
}

// measured is an estimate with a smoothed and a latest time.
func measured(smooth, latest int) api.Rtt {
	return api.Rtt{Latest: latest, Smooth: smooth}
}

// fresh is the new estimate with a smoothed time.
func fresh(smooth int) api.Rtt {
	return api.Rtt{Smooth: smooth, Var: smooth / 2, First: -1}
}

// checks checks what Check says of a list.
func checks(t *testing.T, l []api.Packet, valid bool) {
	t.Helper()
	want := api.ErrArg
	if valid {
		want = api.OK
	}
	if e := loss.Check(l); e != want {
		t.Errorf("Check(%v): error %d, want %d", l, e, want)
	}
}

// waits checks the wait of an estimate.
func waits(t *testing.T, r api.Rtt, want int) {
	t.Helper()
	if got := loss.Wait(r); got != want {
		t.Errorf("Wait(%+v): got %d, want %d", r, got, want)
	}
}

// finds checks what is found in a list.
func finds(t *testing.T, l []api.Packet, acked, now int, r api.Rtt, lost, rest []api.Packet, at int) {
	t.Helper()
	gotLost, gotRest, gotAt, e := loss.Find(l, acked, now, r)
	if e != api.OK || !slices.Equal(gotLost, lost) || !slices.Equal(gotRest, rest) || gotAt != at {
		t.Errorf("Find(%v, %d, %d, %+v): got %v; %v; %d, error %d, want %v; %v; %d", l, acked, now, r, gotLost, gotRest, gotAt, e, lost, rest, at)
	}
}

// refuses checks that nothing is found, and that there is nothing beside the error.
func refuses(t *testing.T, l []api.Packet, acked, now int, r api.Rtt, want api.Errno) {
	t.Helper()
	lost, rest, at, e := loss.Find(l, acked, now, r)
	if len(lost) > 0 || len(rest) > 0 || at != 0 || e != want {
		t.Errorf("Find(%v, %d, %d, %+v): got %v; %v; %d, error %d, want error %d", l, acked, now, r, lost, rest, at, e, want)
	}
}

// The chapter's examples.
func TestExamples(t *testing.T) {
	r := api.Rtt{Latest: 8000000, Min: 1, Smooth: 800}
	waits(t, r, 9000000)
	all := []api.Packet{packet(1, 0), packet(2, 100), packet(5, 200), packet(6, 300)}
	finds(t, all, 5, 1000, r, all[:2], all[2:], 9000200)
	finds(t, all, 4, 1000, r, all[:1], all[1:], 9000100)
	finds(t, all, -1, 1000, r, nil, all, -1)
	finds(t, all, 6, 9000250, r, all[:3], all[3:], 9000300)
	finds(t, all, 9, 0, r, all, nil, -1)
	refuses(t, []api.Packet{all[1], all[0]}, 5, 0, r, api.ErrArg)
	refuses(t, all, -2, 0, r, api.ErrRange)
}

// P9.1: lists that are valid.
func TestCheck(t *testing.T) {
	for _, l := range [][]api.Packet{
		nil,
		{},
		packets(0, 0),
		packets(most, most),
		packets(3, 0, 1),
		packets(3, 0, most),
		packets(3, 5, 9, 10, 1<<40),
		{packet(1, 9), packet(2, 3), packet(3, 9)},
		{{Number: 4, Size: 1}},
		{{Number: 4, Size: 65535}},
		{{Number: 4, Size: 7, Flight: true}, {Number: 5, Size: 7, Eliciting: true}, {Number: 6, Size: 7, Ect: true}},
		rising(0, room-1),
		rising(0, room),
		rising(most-room+1, room),
	} {
		checks(t, l, true)
		finds(t, l, -1, 0, api.Rtt{}, nil, l, -1)
	}
}

// P9.1, P9.2: lists that have too many packets.
func TestCheckLength(t *testing.T) {
	for _, many := range []int{room + 1, room + 2, 2 * room, 1000, 1 << 16, 1<<16 + 1} {
		checks(t, rising(0, many), false)
		refuses(t, rising(0, many), 5, 0, api.Rtt{}, api.ErrArg)
	}
	// Whatever they are.
	checks(t, make([]api.Packet, room+1), false)
}

// P9.1, P9.2: lists whose numbers are not strictly increasing.
func TestCheckOrder(t *testing.T) {
	for _, l := range [][]api.Packet{
		packets(0, 0, 0),
		packets(0, 7, 7),
		packets(0, 7, 6),
		packets(0, 1, 0),
		packets(0, most, most),
		packets(0, most, 0),
		packets(0, 1, 2, 3, 3),
		packets(0, 1, 5, 4, 6),
		packets(0, 2, 1, 3, 4),
		packets(0, 1, 3, 2, 3),
	} {
		checks(t, l, false)
		refuses(t, l, 5, 0, api.Rtt{}, api.ErrArg)
	}
	for i := 1; i < room; i++ {
		l := rising(10, room)
		l[i].Number = l[i-1].Number
		checks(t, l, false)
	}
}

// P9.1, P9.2: lists with a packet that is not valid, wherever it stands.
func TestCheckPackets(t *testing.T) {
	for _, many := range []int{1, 2, 3, room} {
		for i := range many {
			for _, change := range wrongs() {
				l := rising(10, many)
				change(&l[i])
				checks(t, l, false)
				refuses(t, l, 5, 0, api.Rtt{}, api.ErrArg)
			}
		}
	}
}

// wrongs make a packet one that is not valid.
func wrongs() []func(p *api.Packet) {
	var l []func(p *api.Packet)
	for _, wrong := range noTimes() {
		l = append(l, func(p *api.Packet) { p.Number = wrong }, func(p *api.Packet) { p.Time = wrong })
	}
	for _, wrong := range append(noTimes(), 0, 65536, 65537, 1<<16+1, 1<<32+1, most) {
		l = append(l, func(p *api.Packet) { p.Size = wrong })
	}
	return l
}

// P9.1: nine eighths, rounded down, of the greater one of two times.
func TestWait(t *testing.T) {
	for _, c := range []struct{ greatest, want int }{
		{0, milli},
		{1, milli},
		{milli/9*8 - 1, milli},
		{888888, milli}, // 999999
		{888889, milli},
		{888890, 1000001},
		{888891, 1000002},
		{888892, 1000003},
		{milli, 1125000},
		{8000000, 9000000},
		{8000001, 9000001},
		{8000002, 9000002},
		{8000003, 9000003},
		{8000004, 9000004},
		{8000005, 9000005},
		{8000006, 9000006},
		{8000007, 9000007},
		{8000008, 9000009},
		{333000000, 374625000},
		{great, 67500000000},
		{1 << 50, 9 << 47},
		{8006399337547546, most - 2},
		{8006399337547547, most - 1},
		{8006399337547548, most},
		{8006399337547549, most},
		{most - 1, most},
		{most, most},
	} {
		waits(t, measured(c.greatest, 0), c.want)
		waits(t, measured(0, c.greatest), c.want)
		waits(t, measured(c.greatest, c.greatest), c.want)
		waits(t, measured(c.greatest, c.greatest/2), c.want)
		waits(t, measured(c.greatest/2, c.greatest), c.want)
		waits(t, api.Rtt{Latest: c.greatest, Min: c.greatest, Smooth: c.greatest, Var: most, First: most}, c.want)
	}
	for _, c := range []struct{ smooth, want int }{{milli, 1125000}, {milli + 1, 1125001}, {333000000, 374625000}, {great, 67500000000}} {
		waits(t, fresh(c.smooth), c.want)
	}
}

// wrongEstimates are estimates that are not valid.
func wrongEstimates() []api.Rtt {
	l := []api.Rtt{
		{Latest: 1, Min: 2, Smooth: 2},
		{Latest: 2, Min: 2, Smooth: 1},
		fresh(milli - 1),
		fresh(great + 1),
		{Latest: milli, Smooth: milli, Var: milli / 2, First: -1},
	}
	for _, wrong := range noTimes() {
		l = append(l, measured(wrong, 5), measured(5, wrong), api.Rtt{Min: wrong}, api.Rtt{Var: wrong}, api.Rtt{First: wrong})
	}
	return l
}

// P9.1, P9.2: an estimate that is not valid has no wait, and nothing is found with it.
func TestWrongEstimates(t *testing.T) {
	for _, r := range wrongEstimates() {
		waits(t, r, 0)
		for _, l := range [][]api.Packet{nil, rising(0, 5)} {
			for _, acked := range []int{-1, 0, 9, most} {
				refuses(t, l, acked, 0, r, api.ErrArg)
				refuses(t, l, acked, most, r, api.ErrArg)
			}
		}
	}
}

// P9.2: what is acknowledged is a number, or -1; now is a time, and not Never.
func TestFindRange(t *testing.T) {
	for _, r := range []api.Rtt{{}, fresh(333000000), measured(most, most)} {
		for _, l := range [][]api.Packet{nil, rising(0, 5)} {
			for _, wrong := range noTimes() {
				refuses(t, l, -1, wrong, r, api.ErrRange)
				refuses(t, l, 9, wrong, r, api.ErrRange)
				if wrong != -1 {
					refuses(t, l, wrong, 0, r, api.ErrRange)
					refuses(t, l, wrong, wrong, r, api.ErrRange)
				}
			}
		}
		for _, acked := range []int{-1, 0, 1, most - 1, most} {
			for _, now := range []int{0, 1, most - 1, most} {
				finds(t, nil, acked, now, r, nil, nil, -1)
				finds(t, []api.Packet{}, acked, now, r, nil, nil, -1)
			}
		}
	}
}

// P9.2: of several errors the one of the list comes first, the one of the estimate last.
func TestFindOrderOfErrors(t *testing.T) {
	wrongList, wrongEstimate := packets(0, 2, 1), api.Rtt{Min: 1}
	refuses(t, wrongList, -2, 0, api.Rtt{}, api.ErrArg)
	refuses(t, wrongList, 0, -1, api.Rtt{}, api.ErrArg)
	refuses(t, wrongList, -2, -1, wrongEstimate, api.ErrArg)
	refuses(t, rising(0, room+1), most+1, most+1, wrongEstimate, api.ErrArg)
	refuses(t, nil, -2, 0, wrongEstimate, api.ErrRange)
	refuses(t, nil, 0, -1, wrongEstimate, api.ErrRange)
	refuses(t, rising(0, 5), most+1, most+1, wrongEstimate, api.ErrRange)
	refuses(t, rising(0, 5), 0, 0, wrongEstimate, api.ErrArg)
}

// P9.2: three below what is acknowledged a packet is lost, however young it is.
func TestFindNumbers(t *testing.T) {
	for _, r := range []api.Rtt{{}, fresh(333000000), measured(most, most)} {
		due := 7 + loss.Wait(r)
		if due > most {
			due = most
		}
		for _, from := range []int{0, 1, 1000, most - 20} {
			l := rising(from, 12)
			for many := range 10 {
				for _, now := range []int{0, 6, 7, 8} {
					finds(t, l, from+many+2, now, r, l[:many], l[many:], due)
				}
			}
			for many := 10; many < 12; many++ {
				finds(t, l, from+many+2, 0, r, l[:many], l[many:], due)
			}
			finds(t, l, from+14, 0, r, l, nil, -1)
			finds(t, l, most, 0, r, l, nil, -1)
			for _, acked := range []int{from, from + 1} {
				finds(t, l, acked, 0, r, nil, l, due)
			}
			finds(t, l, from-1, 0, r, nil, l, -1)
		}
	}
}

// P9.2: numbers that were skipped count.
func TestFindGaps(t *testing.T) {
	l := packets(7, 1, 10, 12, 13, 14, 100)
	finds(t, l, 3, 7, api.Rtt{}, nil, l, 7+milli)
	finds(t, l, 4, 7, api.Rtt{}, l[:1], l[1:], -1)
	finds(t, l, 9, 7, api.Rtt{}, l[:1], l[1:], -1)
	finds(t, l, 10, 7, api.Rtt{}, l[:1], l[1:], 7+milli)
	finds(t, l, 15, 7, api.Rtt{}, l[:3], l[3:], 7+milli)
	finds(t, l, 16, 7, api.Rtt{}, l[:4], l[4:], 7+milli)
	finds(t, l, 99, 7, api.Rtt{}, l[:5], l[5:], -1)
	finds(t, l, 100, 7, api.Rtt{}, l[:5], l[5:], 7+milli)
	finds(t, l, 102, 7, api.Rtt{}, l[:5], l[5:], 7+milli)
	finds(t, l, 103, 7, api.Rtt{}, l, nil, -1)
}

// P9.2: at its time plus the wait a packet is lost, not before; the greatest
// acknowledged number itself is none that is exempt.
func TestFindTimes(t *testing.T) {
	for _, r := range []api.Rtt{{}, {Latest: 8000001, Min: 1, Smooth: 800}, fresh(333000000)} {
		wait := loss.Wait(r)
		for _, sent := range []int{0, 1, 1 << 40, most - wait - 1} {
			for _, acked := range []int{5, 6, 7} {
				l := packets(sent, 5)
				finds(t, l, acked, sent, r, nil, l, sent+wait)
				finds(t, l, acked, sent+wait-1, r, nil, l, sent+wait)
				finds(t, l, acked, sent+wait, r, l, nil, -1)
				finds(t, l, acked, sent+wait+1, r, l, nil, -1)
			}
			l := packets(sent, 5)
			finds(t, l, 4, sent+wait, r, nil, l, -1)
			finds(t, l, 4, most, r, nil, l, -1)
			finds(t, l, -1, most, r, nil, l, -1)
		}
	}
}

// P9.2: times need not rise with the numbers; the lost and the others keep their order.
func TestFindMixed(t *testing.T) {
	l := []api.Packet{packet(1, 90), packet(2, 10), packet(3, 50), packet(4, 10), packet(5, 60), packet(6, 0)}
	finds(t, l, 3, milli+9, api.Rtt{}, nil, l, milli+10)
	finds(t, l, 3, milli+10, api.Rtt{}, []api.Packet{l[1]}, []api.Packet{l[0], l[2], l[3], l[4], l[5]}, milli+50)
	finds(t, l, 3, milli+50, api.Rtt{}, []api.Packet{l[1], l[2]}, []api.Packet{l[0], l[3], l[4], l[5]}, milli+90)
	finds(t, l, 5, milli+10, api.Rtt{}, []api.Packet{l[0], l[1], l[3]}, []api.Packet{l[2], l[4], l[5]}, milli+50)
	finds(t, l, 5, milli+55, api.Rtt{}, l[:4], l[4:], milli+60)
	finds(t, l, 6, milli+55, api.Rtt{}, []api.Packet{l[0], l[1], l[2], l[3], l[5]}, []api.Packet{l[4]}, milli+60)
}

// P9.2: a wait that ends after the greatest time ends nowhere: until then the
// packet is not lost, and the greatest time is told.
func TestFindLate(t *testing.T) {
	for _, c := range []struct {
		sent, now int
		r         api.Rtt
		lost      bool
	}{
		{most - milli - 1, most - 2, api.Rtt{}, false},
		{most - milli - 1, most - 1, api.Rtt{}, true},
		{most - milli, most - 1, api.Rtt{}, false},
		{most - milli, most, api.Rtt{}, true},
		{most - milli + 1, most, api.Rtt{}, false},
		{most - 1, most, api.Rtt{}, false},
		{most, most, api.Rtt{}, false},
		{0, most - 1, measured(most, 0), false},
		{0, most, measured(most, 0), true},
		{1, most, measured(most, 0), false},
		{most, most, measured(most, most), false},
	} {
		l := packets(c.sent, 5)
		if c.lost {
			finds(t, l, 5, c.now, c.r, l, nil, -1)
			finds(t, l, 7, c.now, c.r, l, nil, -1)
			continue
		}
		at := c.sent + loss.Wait(c.r)
		if at > most {
			at = most
		}
		finds(t, l, 5, c.now, c.r, nil, l, at)
		finds(t, l, 7, c.now, c.r, nil, l, at)
		finds(t, l, 8, c.now, c.r, l, nil, -1)
	}
}

// P9.2: size and marks of a packet do not matter, and are kept.
func TestFindOtherFields(t *testing.T) {
	for _, size := range []int{1, 1200, 65535} {
		for marks := range 8 {
			p := api.Packet{Number: 5, Time: 3, Size: size, Eliciting: marks&1 > 0, Flight: marks&2 > 0, Ect: marks&4 > 0}
			finds(t, []api.Packet{p}, 8, 0, api.Rtt{}, []api.Packet{p}, nil, -1)
			finds(t, []api.Packet{p}, 5, milli+3, api.Rtt{}, []api.Packet{p}, nil, -1)
			finds(t, []api.Packet{p}, 5, 9, api.Rtt{}, nil, []api.Packet{p}, milli+3)
			finds(t, []api.Packet{p}, 4, most, api.Rtt{}, nil, []api.Packet{p}, -1)
		}
	}
}

// P9.2: as many packets as there may be.
func TestFindRoom(t *testing.T) {
	l := rising(0, room)
	for many := range room + 1 {
		at := 7 + milli
		if many == room {
			at = -1
		}
		if many > 0 {
			finds(t, l, many+2, 7, api.Rtt{}, l[:many], l[many:], at)
		}
	}
	finds(t, l, -1, most, api.Rtt{}, nil, l, -1)
	finds(t, l, most, 0, api.Rtt{}, l, nil, -1)
}

// P9.3: lists with spare capacity are only read, beyond their length, too.
func TestArgumentsAreRead(t *testing.T) {
	for many := range 9 {
		whole := rising(0, 12)
		before := slices.Clone(whole)
		for acked := -1; acked < 15; acked++ {
			loss.Check(whole[:many])
			lost, rest, _, _ := loss.Find(whole[:many], acked, 5, api.Rtt{})
			overwrite(lost)
			overwrite(rest)
			if !slices.Equal(whole, before) {
				t.Fatalf("Find of %d packets at %d changed %v to %v", many, acked, before, whole)
			}
		}
	}
}

// overwrite changes a list, and what it has room for.
func overwrite(l []api.Packet) {
	l = l[:cap(l)]
	for i := range l {
		l[i] = packet(99, 99)
	}
}

// P9.3: no result shares memory with another one, of the same call or of a later one.
func TestResultsAreNew(t *testing.T) {
	l := rising(0, 8)
	for acked := 3; acked < 10; acked++ {
		lost, rest, _, _ := loss.Find(l, acked, 7, api.Rtt{})
		overwrite(lost)
		finds(t, l, acked, 7, api.Rtt{}, l[:acked-2], rest, 7+milli)
		overwrite(rest)
		finds(t, l, acked, 7, api.Rtt{}, l[:acked-2], l[acked-2:], 7+milli)

		lost, rest, _, _ = loss.Find(l, acked, 7, api.Rtt{})
		overwrite(rest)
		if !slices.Equal(lost, l[:acked-2]) {
			t.Errorf("the lost ones share memory with the others: %v", lost)
		}
	}
}
