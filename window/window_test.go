package window_test

import (
	"math"
	"testing"

	"sounder/api"
	"sounder/window"
)

const (
	most  = api.MaxTime
	great = 1 << 40
	never = -1
)

// noTimes are ints that are not times of packets or calls; Never is one of them.
func noTimes() []int {
	return []int{-1, -2, -256, math.MinInt, math.MinInt + 1, most + 1, most + 2, 1 << 62, math.MaxInt - 1, math.MaxInt}
}

// noSizes are ints that are not sizes of packets.
func noSizes() []int {
	return []int{0, -1, -1200, math.MinInt, 65536, 65537, 1 << 40, math.MaxInt}
}

// slow is a window in slow start, steady is one that is not.
func slow() api.Window {
	return api.Window{Datagram: 1200, Most: 100000, Cwnd: 12000, Thresh: never, Start: never}
}

func steady() api.Window {
	return api.Window{Datagram: 1200, Most: 100000, Cwnd: 12000, Thresh: 6000, Start: 40, Got: 100}
}

// packet is one with a time and a size.
func packet(time, size int) api.Packet { return api.Packet{Time: time, Size: size} }

// acked is the window after an acknowledgement that must be possible.
func acked(t *testing.T, w api.Window, p api.Packet, full bool) api.Window {
	t.Helper()
	after, e := window.Acked(w, p, full)
	if e != api.OK {
		t.Fatalf("Acked(%+v, %+v, %v): error %d", w, p, full, e)
	}
	return after
}

// bad is the window after a congestion event that must be possible.
func bad(t *testing.T, w api.Window, sent, now int) api.Window {
	t.Helper()
	after, e := window.Bad(w, sent, now)
	if e != api.OK {
		t.Fatalf("Bad(%+v, %d, %d): error %d", w, sent, now, e)
	}
	return after
}

// collapsed is the window after a collapse that must be possible.
func collapsed(t *testing.T, w api.Window) api.Window {
	t.Helper()
	after, e := window.Collapse(w)
	if e != api.OK {
		t.Fatalf("Collapse(%+v): error %d", w, e)
	}
	return after
}

// same checks a window after some change.
func same(t *testing.T, what string, got, want api.Window) {
	t.Helper()
	if got != want {
		t.Errorf("%s: got %+v, want %+v", what, got, want)
	}
}

// fails checks that there is an error, and nothing beside it.
func fails(t *testing.T, got api.Window, e, want api.Errno) {
	t.Helper()
	if got != (api.Window{}) || e != want {
		t.Errorf("got %+v, error %d, want error %d", got, e, want)
	}
}

// The chapter's examples.
func TestExamples(t *testing.T) {
	w, e := window.New(1200, 12000, 20000)
	if e != api.OK {
		t.Fatalf("New: error %d", e)
	}
	is := func(cwnd, thresh, start, got int) {
		t.Helper()
		same(t, "the example", w, api.Window{Datagram: 1200, Most: 20000, Cwnd: cwnd, Thresh: thresh, Start: start, Got: got})
	}
	is(12000, never, never, 0)
	w = acked(t, w, packet(5, 1200), true)
	is(13200, never, never, 0)
	w = acked(t, w, packet(5, 1200), false)
	is(13200, never, never, 0)
	w = bad(t, w, 5, 40)
	is(6600, 6600, 40, 0)
	w = bad(t, w, 40, 60)
	is(6600, 6600, 40, 0)
	w = acked(t, w, packet(41, 5000), true)
	is(6600, 6600, 40, 5000)
	w = acked(t, w, packet(41, 5000), true)
	is(7800, 6600, 40, 3400)
	w = acked(t, w, packet(41, 60000), true)
	is(13800, 6600, 40, 12400)
	w = collapsed(t, w)
	is(2400, 6600, never, 0)
}

// P11.1: New, at the edges of each argument.
func TestNew(t *testing.T) {
	for _, c := range [][3]int{
		{1200, 2400, 2400}, {1200, 2400, 2401}, {1200, 2401, 2401}, {1200, 12000, 20000}, {1201, 2402, 2402},
		{1200, 2400, great}, {1200, great, great}, {65526, 131052, 131052}, {65527, 131054, 131054},
		{65527, 131054, great - 1}, {65527, great - 1, great - 1}, {65527, great, great},
	} {
		w, e := window.New(c[0], c[1], c[2])
		if e != api.OK {
			t.Errorf("New(%d, %d, %d): error %d", c[0], c[1], c[2], e)
		}
		same(t, "New", w, api.Window{Datagram: c[0], Cwnd: c[1], Most: c[2], Thresh: never, Start: never})
		if !window.Slow(w) {
			t.Errorf("New(%d, %d, %d) is not in slow start", c[0], c[1], c[2])
		}
	}
	for _, c := range [][3]int{
		{1199, 12000, 20000}, {0, 12000, 20000}, {-1200, 12000, 20000}, {65528, 140000, 140000}, {65536, 140000, 140000},
		{1200, 2399, 20000}, {1200, 0, 20000}, {1200, -1, 20000}, {1200, -12000, 20000}, {1200, 20001, 20000},
		{1200, 2400, 2399}, {1200, 2399, 2399}, {1200, 1200, 1200}, {1200, 12000, 0}, {1200, 12000, -1},
		{1200, 12000, great + 1}, {1200, great + 1, great + 1}, {1201, 2401, 20000}, {1201, 2401, 2401},
		{65527, 131053, 200000}, {65527, 131053, 131053}, {0, 0, 0},
		{math.MaxInt, 12000, 20000}, {math.MinInt, 12000, 20000}, {1 << 62, 12000, 20000}, {1 << 62, math.MinInt, 0},
		{1200, math.MaxInt, 20000}, {1200, math.MinInt, 20000}, {1200, 12000, math.MaxInt}, {1200, 12000, math.MinInt},
		{math.MinInt, math.MinInt, math.MinInt}, {math.MaxInt, math.MaxInt, math.MaxInt}, {math.MinInt, 0, 0},
	} {
		w, e := window.New(c[0], c[1], c[2])
		fails(t, w, e, api.ErrArg)
	}
}

// checks checks what Check says of a window, and that nothing is done with one that is not valid.
func checks(t *testing.T, w api.Window, valid bool) {
	t.Helper()
	if valid {
		if e := window.Check(w); e != api.OK {
			t.Errorf("Check(%+v): error %d", w, e)
		}
		return
	}
	if e := window.Check(w); e != api.ErrArg {
		t.Errorf("Check(%+v): error %d", w, e)
	}
	if window.Slow(w) {
		t.Errorf("Slow(%+v): got true", w)
	}
	// The error of the window comes first, whatever is wrong beside it.
	for _, n := range []int{0, 50, most, never, math.MinInt, math.MaxInt} {
		for _, size := range []int{0, 1200, 65536} {
			got, e := window.Acked(w, packet(n, size), size > 0)
			fails(t, got, e, api.ErrArg)
		}
		got, e := window.Bad(w, n, 60)
		fails(t, got, e, api.ErrArg)
		got, e = window.Bad(w, 50, n)
		fails(t, got, e, api.ErrArg)
	}
	got, e := window.Collapse(w)
	fails(t, got, e, api.ErrArg)
}

// P11.1, P11.2: each field at the edges of what it may be.
func TestCheck(t *testing.T) {
	base := steady()
	with := func(set func(w *api.Window)) api.Window {
		w := base
		set(&w)
		return w
	}
	for _, n := range []int{1200, 1201, 5999, 6000} {
		checks(t, with(func(w *api.Window) { w.Datagram = n }), true)
	}
	for _, n := range []int{1199, 1, 0, -1200, 6001, 12000, 65527, 65528, math.MinInt, math.MaxInt, 1 << 62, -1 << 62} {
		checks(t, with(func(w *api.Window) { w.Datagram = n }), false)
	}
	for _, n := range []int{12000, 12001, great - 1, great} {
		checks(t, with(func(w *api.Window) { w.Most = n }), true)
	}
	for _, n := range []int{11999, 2400, 2399, 0, -1, great + 1, math.MinInt, math.MaxInt} {
		checks(t, with(func(w *api.Window) { w.Most = n }), false)
	}
	for _, n := range []int{2400, 2401, 99999, 100000} {
		checks(t, with(func(w *api.Window) { w.Cwnd = n }), true)
	}
	for _, n := range []int{2399, 1200, 101, 0, -1, -12000, 100001, math.MinInt, math.MaxInt} {
		checks(t, with(func(w *api.Window) { w.Cwnd = n }), false)
	}
	for _, n := range []int{never, 1200, 1201, 12000, 99999, 100000} {
		checks(t, with(func(w *api.Window) { w.Thresh = n }), true)
	}
	for _, n := range []int{1199, 1, 0, -2, -1200, 100001, math.MinInt, math.MaxInt} {
		checks(t, with(func(w *api.Window) { w.Thresh = n }), false)
	}
	for _, n := range []int{never, 0, 1, 40, most - 1, most} {
		checks(t, with(func(w *api.Window) { w.Start = n }), true)
	}
	for _, n := range noTimes() {
		checks(t, with(func(w *api.Window) { w.Start = n }), n == never)
	}
	for _, n := range []int{0, 1, 11998, 11999} {
		checks(t, with(func(w *api.Window) { w.Got = n }), true)
	}
	for _, n := range []int{-1, -2, 12000, 12001, 100000, math.MinInt, math.MaxInt} {
		checks(t, with(func(w *api.Window) { w.Got = n }), false)
	}
	checks(t, api.Window{}, false)
	checks(t, api.Window{Thresh: never, Start: never}, false)
}

// P11.1: slow start ends at the threshold; without one it does not end.
func TestSlow(t *testing.T) {
	w := steady()
	for _, c := range []struct {
		thresh int
		want   bool
	}{{never, true}, {1200, false}, {11999, false}, {12000, false}, {12001, true}, {100000, true}} {
		w.Thresh = c.thresh
		if got := window.Slow(w); got != c.want {
			t.Errorf("Slow(%+v): got %v", w, got)
		}
	}
	full := api.Window{Datagram: 1200, Most: 2400, Cwnd: 2400, Thresh: never, Start: never}
	if !window.Slow(full) {
		t.Errorf("Slow(%+v): got false", full)
	}
}

// P11.2: packets that are not valid, in every kind of window, full or not.
func TestAckedRange(t *testing.T) {
	for _, w := range []api.Window{slow(), steady()} {
		for _, full := range []bool{true, false} {
			for _, n := range noTimes() {
				got, e := window.Acked(w, packet(n, 1200), full)
				fails(t, got, e, api.ErrRange)
			}
			for _, n := range noSizes() {
				for _, time := range []int{0, 40, 41, most, never} {
					got, e := window.Acked(w, packet(time, n), full)
					fails(t, got, e, api.ErrRange)
				}
			}
			for _, time := range []int{0, most} {
				acked(t, w, packet(time, 1), full)
				acked(t, w, packet(time, 65535), full)
			}
		}
	}
}

// P11.2: the other fields of a packet are not looked at.
func TestAckedOtherFields(t *testing.T) {
	for _, w := range []api.Window{slow(), steady()} {
		want := acked(t, w, packet(41, 1200), true)
		for _, n := range []int{0, 7, -1, most, math.MinInt, math.MaxInt} {
			for i := range 8 {
				p := api.Packet{Number: n, Time: 41, Size: 1200, Eliciting: i&1 > 0, Flight: i&2 > 0, Ect: i&4 > 0}
				same(t, "Acked", acked(t, w, p, true), want)
			}
		}
	}
}

// P11.2: times that are not valid, in every kind of window.
func TestBadRange(t *testing.T) {
	for _, w := range []api.Window{slow(), steady()} {
		for _, n := range noTimes() {
			for _, other := range []int{0, 40, 41, most, never} {
				got, e := window.Bad(w, n, other)
				fails(t, got, e, api.ErrRange)
				got, e = window.Bad(w, other, n)
				fails(t, got, e, api.ErrRange)
			}
		}
		for _, n := range []int{0, 40, 41, most} {
			bad(t, w, n, 0)
			bad(t, w, n, most)
		}
	}
}

// P11.2: in slow start the window grows by the size, also past the threshold; what was got does not change.
func TestSlowStart(t *testing.T) {
	for _, c := range []struct{ cwnd, thresh, got, size, want int }{
		{12000, never, 0, 1, 12001},
		{12000, never, 0, 65535, 77535},
		{12000, never, 11999, 1200, 13200},
		{12000, 12001, 0, 1, 12001},
		{12000, 12001, 7, 65535, 77535},
		{12000, 20000, 0, 8000, 20000},
		{98800, never, 0, 1199, 99999},
		{98800, never, 0, 1200, 100000},
		{98800, never, 0, 1201, 100000},
		{98800, 98801, 0, 65535, 100000},
		{100000, never, 5, 65535, 100000},
		{99999, 100000, 5, 1, 100000},
	} {
		w := slow()
		w.Cwnd, w.Thresh, w.Got = c.cwnd, c.thresh, c.got
		want := w
		want.Cwnd = c.want
		same(t, "Acked", acked(t, w, packet(0, c.size), true), want)
	}
}

// P11.2: past slow start the window grows by a datagram for each window.
func TestAvoidance(t *testing.T) {
	for _, c := range []struct{ cwnd, got, size, want, left int }{
		{12000, 0, 1, 12000, 1},
		{12000, 0, 11999, 12000, 11999},
		{12000, 0, 12000, 13200, 0},
		{12000, 0, 12001, 13200, 1},
		{12000, 11999, 1, 13200, 0},
		{12000, 11999, 2, 13200, 1},
		{12000, 11999, 13200, 13200, 13199},
		{12000, 11999, 13201, 14400, 0},
		{12000, 11999, 13202, 14400, 1},
		{12000, 11999, 65535, 18000, 5534},
		{98799, 98798, 1, 99999, 0},
		{98800, 98799, 1, 100000, 0},
		{98801, 98800, 1, 100000, 0},
		{99999, 99998, 3, 100000, 2},
		{100000, 99998, 1, 100000, 99999},
		{100000, 99999, 1, 100000, 0},
		{100000, 99999, 65535, 100000, 65534},
	} {
		w := steady()
		w.Cwnd, w.Got = c.cwnd, c.got
		want := w
		want.Cwnd, want.Got = c.want, c.left
		same(t, "Acked", acked(t, w, packet(41, c.size), true), want)
	}
}

// P11.2: a small window that cannot grow is passed many times by one packet.
func TestSmallest(t *testing.T) {
	w := api.Window{Datagram: 1200, Most: 2400, Cwnd: 2400, Thresh: 1200, Start: 0, Got: 2399}
	want := w
	want.Got = (2399 + 65535) % 2400
	same(t, "Acked", acked(t, w, packet(1, 65535), true), want)
	want.Got = 0
	same(t, "Acked", acked(t, w, packet(1, 1), true), want)
}

// P11.2: what was sent by the recovery start does not count, nor does anything while the window is not full.
func TestNotAfter(t *testing.T) {
	for _, start := range []int{0, 1, 40, most - 1, most} {
		for _, thresh := range []int{never, 6000, 90000} {
			w := steady()
			w.Start, w.Thresh = start, thresh
			for _, sent := range []int{0, start / 2, max(start-1, 0), start} {
				for _, size := range []int{1, 11900, 65535} {
					same(t, "Acked", acked(t, w, packet(sent, size), true), w)
					same(t, "Acked", acked(t, w, packet(sent, size), false), w)
				}
				same(t, "Bad", bad(t, w, sent, most), w)
				same(t, "Bad", bad(t, w, sent, 0), w)
			}
			if start == most {
				continue
			}
			for _, sent := range []int{start + 1, most} {
				same(t, "Acked", acked(t, w, packet(sent, 11900), false), w)
				if acked(t, w, packet(sent, 11900), true) == w || bad(t, w, sent, most) == w {
					t.Errorf("a packet that was sent at %d does not count in %+v", sent, w)
				}
			}
		}
	}
}

// P11.2: without a recovery start all times count.
func TestNeverStarted(t *testing.T) {
	for _, sent := range []int{0, 1, most - 1, most} {
		w := slow()
		want := w
		want.Cwnd = 12007
		same(t, "Acked", acked(t, w, packet(sent, 7), true), want)
		want = w
		want.Cwnd, want.Thresh, want.Start = 6000, 6000, most
		same(t, "Bad", bad(t, w, sent, most), want)
	}
}

// P11.2: a congestion event halves the window, down to two datagrams.
func TestBad(t *testing.T) {
	for _, c := range []struct{ cwnd, thresh, to int }{
		{2400, 1200, 2400},
		{2401, 1200, 2400},
		{2402, 1201, 2400},
		{4799, 2399, 2400},
		{4800, 2400, 2400},
		{4801, 2400, 2400},
		{4802, 2401, 2401},
		{12001, 6000, 6000},
		{99999, 49999, 49999},
		{100000, 50000, 50000},
	} {
		for _, thresh := range []int{never, 1200, c.cwnd, 100000} {
			for _, now := range []int{0, 41, 60, most} {
				w := steady()
				w.Cwnd, w.Thresh = c.cwnd, thresh
				want := w
				want.Cwnd, want.Thresh, want.Start, want.Got = c.to, c.thresh, now, 0
				same(t, "Bad", bad(t, w, 41, now), want)
			}
		}
	}
}

// P11.2: a collapse leaves two datagrams, and the threshold as it was.
func TestCollapse(t *testing.T) {
	for _, cwnd := range []int{2400, 2401, 12000, 100000} {
		for _, thresh := range []int{never, 1200, 2399, 2400, 2401, 100000} {
			for _, start := range []int{never, 0, 40, most} {
				w := steady()
				w.Cwnd, w.Thresh, w.Start, w.Got = cwnd, thresh, start, cwnd-1
				want := w
				want.Cwnd, want.Start, want.Got = 2400, never, 0
				same(t, "Collapse", collapsed(t, w), want)
			}
		}
	}
	w := api.Window{Datagram: 65527, Most: great, Cwnd: great, Thresh: great, Start: most, Got: great - 1}
	same(t, "Collapse", collapsed(t, w), api.Window{Datagram: 65527, Most: great, Cwnd: 131054, Thresh: great, Start: never})
}

// P11.2: after a collapse the window grows fast up to its threshold, and what was sent before counts.
func TestAfterCollapse(t *testing.T) {
	w := collapsed(t, steady())
	for _, c := range []struct{ size, cwnd, got int }{{1200, 3600, 0}, {2399, 5999, 0}, {2, 6001, 0}, {6000, 6001, 6000}, {1, 7201, 0}} {
		w = acked(t, w, packet(0, c.size), true)
		same(t, "Acked", w, api.Window{Datagram: 1200, Most: 100000, Cwnd: c.cwnd, Thresh: 6000, Start: never, Got: c.got})
	}
	same(t, "Bad", bad(t, w, 0, 70), api.Window{Datagram: 1200, Most: 100000, Cwnd: 3600, Thresh: 3600, Start: 70})
}
