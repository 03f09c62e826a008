package window_test

import (
	"math/rand"
	"slices"
	"testing"

	"sounder/api"
	"sounder/window"
)

// isValid tells whether a window is valid, by the definition.
func isValid(w api.Window) bool {
	switch {
	case w.Datagram < 1200 || w.Datagram > 65527:
		return false
	case w.Most < 2*w.Datagram || w.Most > 1<<40:
		return false
	case w.Cwnd < 2*w.Datagram || w.Cwnd > w.Most:
		return false
	case w.Thresh != -1 && (w.Thresh < w.Datagram || w.Thresh > w.Most):
		return false
	case w.Start < -1 || w.Start > 1<<53-1:
		return false
	}
	return w.Got >= 0 && w.Got < w.Cwnd
}

// counts tells whether a time is after the recovery start, by the definition.
func counts(w api.Window, sent int) bool { return w.Start == -1 || sent > w.Start }

// isSlow tells whether a valid window is in slow start, by the definition.
func isSlow(w api.Window) bool { return w.Thresh == -1 || w.Cwnd < w.Thresh }

// definedAcked is the window after an acknowledgement, byte by byte; whether it
// is in slow start is decided before the first one.
func definedAcked(w api.Window, sent, size int, full bool) api.Window {
	if !full || !counts(w, sent) {
		return w
	}
	inSlowStart := isSlow(w)
	for range size {
		if inSlowStart {
			w.Cwnd = min(w.Cwnd+1, w.Most)
			continue
		}
		if w.Got++; w.Got == w.Cwnd {
			w.Got = 0
			w.Cwnd = min(w.Cwnd+w.Datagram, w.Most)
		}
	}
	return w
}

// definedBad is the window after a congestion event.
func definedBad(w api.Window, sent, now int) api.Window {
	if !counts(w, sent) {
		return w
	}
	half := (w.Cwnd - w.Cwnd%2) / 2
	return api.Window{Datagram: w.Datagram, Most: w.Most, Cwnd: max(half, 2*w.Datagram), Thresh: half, Start: now}
}

// definedCollapse is the window after a collapse.
func definedCollapse(w api.Window) api.Window {
	return api.Window{Datagram: w.Datagram, Most: w.Most, Cwnd: 2 * w.Datagram, Thresh: w.Thresh, Start: -1}
}

// unique are the ints of a list, each of them once.
func unique(l ...int) []int {
	slices.Sort(l)
	return slices.Compact(l)
}

// everyWindow goes through windows at the edges of each field, valid ones and others that are not quite.
func everyWindow(yield func(w api.Window) bool) {
	for _, d := range []int{1199, 1200, 1201, 65527, 65528} {
		for _, m := range unique(2*d-1, 2*d, 2*d+1, 3*d, 1<<40, 1<<40+1) {
			for _, c := range unique(2*d-1, 2*d, 2*d+1, m-1, m, m+1) {
				for _, thresh := range unique(-2, -1, 0, d-1, d, 2*d, c-1, c, c+1, m-1, m, m+1) {
					for _, start := range []int{-2, -1, 0, 5, most, most + 1} {
						for _, got := range unique(-1, 0, 1, c-1, c) {
							if !yield(api.Window{Datagram: d, Most: m, Cwnd: c, Thresh: thresh, Start: start, Got: got}) {
								return
							}
						}
					}
				}
			}
		}
	}
}

// P11.1: Check and Slow by the definition.
func TestEveryWindow(t *testing.T) {
	valid, not := 0, 0
	for w := range everyWindow {
		want := api.ErrArg
		if isValid(w) {
			want = api.OK
			valid++
		} else {
			not++
		}
		if e := window.Check(w); e != want {
			t.Fatalf("Check(%+v): error %d, want %d", w, e, want)
		}
		if got := window.Slow(w); got != (isValid(w) && isSlow(w)) {
			t.Fatalf("Slow(%+v): got %v", w, got)
		}
	}
	if valid < 2000 || not < 2000 {
		t.Errorf("%d windows are valid, %d are not: too few of one kind", valid, not)
	}
}

// P11.2: Acked, Bad and Collapse by the definition, for every valid window of those.
func TestEveryChange(t *testing.T) {
	source := rand.New(rand.NewSource(111))
	for w := range everyWindow {
		if !isValid(w) {
			continue
		}
		for _, sent := range unique(0, max(w.Start, 0), min(max(w.Start, 0)+1, most), most) {
			full := source.Intn(8) > 0
			for _, size := range []int{1, 2, 1 + source.Intn(400), 1 + source.Intn(400)} {
				if got, want := acked(t, w, packet(sent, size), full), definedAcked(w, sent, size, full); got != want {
					t.Fatalf("Acked(%+v, %d, %d, %v): got %+v, want %+v", w, sent, size, full, got, want)
				}
			}
			for _, now := range []int{0, 5, most} {
				if got, want := bad(t, w, sent, now), definedBad(w, sent, now); got != want {
					t.Fatalf("Bad(%+v, %d, %d): got %+v, want %+v", w, sent, now, got, want)
				}
			}
		}
		if got, want := collapsed(t, w), definedCollapse(w); got != want {
			t.Fatalf("Collapse(%+v): got %+v, want %+v", w, got, want)
		}
	}
}

// anyWindow is a valid one, often close to an edge.
func anyWindow(source *rand.Rand) api.Window {
	d := 1200 + source.Intn(4)
	if source.Intn(3) == 0 {
		d = 1200 + source.Intn(65527-1200+1)
	}
	m := 2*d + source.Intn(1<<(2+source.Intn(24)))
	if source.Intn(8) == 0 {
		m = 1<<40 - source.Intn(1000)
	}
	within := func(lo, hi int) int {
		switch n := lo + source.Intn(hi-lo+1); source.Intn(4) {
		case 0:
			return min(lo+source.Intn(3), hi)
		case 1:
			return max(hi-source.Intn(3), lo)
		default:
			return n
		}
	}
	w := api.Window{Datagram: d, Most: m, Cwnd: within(2*d, m), Thresh: -1, Start: source.Intn(50) - 1}
	w.Got = within(0, w.Cwnd-1)
	switch source.Intn(3) {
	case 0:
		w.Thresh = within(d, m)
	case 1:
		w.Thresh = min(max(w.Cwnd+source.Intn(5)-2, d), m)
	}
	return w
}

// anySize is a size of a packet, often a small one.
func anySize(source *rand.Rand) int {
	return 1 + source.Intn(65535)>>(source.Intn(3)*4)
}

// P11.2: acknowledgements of all sizes by the definition.
func TestManyAcked(t *testing.T) {
	source := rand.New(rand.NewSource(112))
	for range 20000 {
		w := anyWindow(source)
		if !isValid(w) {
			t.Fatalf("the window %+v is not valid", w)
		}
		sent, size, full := source.Intn(60), anySize(source), source.Intn(10) > 0
		if got, want := acked(t, w, packet(sent, size), full), definedAcked(w, sent, size, full); got != want {
			t.Fatalf("Acked(%+v, %d, %d, %v): got %+v, want %+v", w, sent, size, full, got, want)
		}
	}
}

// anyChange is the window after some change at a time.
func anyChange(t *testing.T, source *rand.Rand, w api.Window, now int) api.Window {
	t.Helper()
	sent := max(now-source.Intn(40), 0)
	switch source.Intn(30) {
	case 0:
		return bad(t, w, sent, now)
	case 1:
		return bad(t, w, sent, source.Intn(1000))
	case 2:
		return collapsed(t, w)
	}
	return acked(t, w, packet(sent, anySize(source)), source.Intn(4) > 0)
}

// P11.3, P11.6: in long series a window stays valid, and within its bounds; and
// Datagram and Most never change.
func TestStaysValid(t *testing.T) {
	source := rand.New(rand.NewSource(113))
	for range 400 {
		w, now := anyWindow(source), 0
		for range 300 {
			now += source.Intn(10)
			after := anyChange(t, source, w, now)
			if !isValid(after) || window.Check(after) != api.OK {
				t.Fatalf("%+v became %+v, which is not valid", w, after)
			}
			if after.Datagram != w.Datagram || after.Most != w.Most {
				t.Fatalf("%+v became %+v: its bounds have changed", w, after)
			}
			w = after
		}
	}
}

// P11.4: congestion events for what was sent by the time of one of them change
// nothing more, also after further ones; nor do acknowledgements of that.
func TestOnce(t *testing.T) {
	source := rand.New(rand.NewSource(114))
	events := 0
	for range 300 {
		w, now, last := anyWindow(source), 50, -1
		for range 200 {
			now += source.Intn(10)
			if sent := now - source.Intn(40); source.Intn(20) == 0 {
				after := bad(t, w, sent, now)
				if after.Start == now {
					last = now
					events++
				}
				w = after
			} else {
				w = acked(t, w, packet(sent, anySize(source)), true)
			}
			if last < 0 {
				continue
			}
			for _, sent := range []int{last, source.Intn(last + 1), 0} {
				if after := bad(t, w, sent, now+source.Intn(2)); after != w {
					t.Fatalf("a second event for a packet sent at %d, after one at %d: %+v became %+v", sent, last, w, after)
				}
				if after := acked(t, w, packet(sent, anySize(source)), true); after != w {
					t.Fatalf("a packet sent at %d was acknowledged, after an event at %d: %+v became %+v", sent, last, w, after)
				}
			}
		}
	}
	if events < 1000 {
		t.Errorf("only %d events", events)
	}
}

// parts acknowledges so many bytes, in any parts.
func parts(t *testing.T, source *rand.Rand, w api.Window, bytes int) api.Window {
	t.Helper()
	for bytes > 0 {
		size := min(anySize(source), bytes)
		w = acked(t, w, packet(w.Start+1, size), true)
		bytes -= size
	}
	return w
}

// P11.5: a whole window that has no threshold doubles.
func TestDoubles(t *testing.T) {
	source := rand.New(rand.NewSource(115))
	for range 1000 {
		w := anyWindow(source)
		w.Cwnd = min(w.Cwnd, 2*w.Datagram+source.Intn(1<<20))
		w.Got = min(w.Got, w.Cwnd-1)
		w.Thresh = -1
		want := w
		want.Cwnd = min(2*w.Cwnd, w.Most)
		if got := parts(t, source, w, w.Cwnd); got != want {
			t.Fatalf("%+v became %+v, want %+v", w, got, want)
		}
	}
}

// P11.5: one that is not in slow start grows by a datagram, just when the rest of a window was acknowledged.
func TestGrowsByOne(t *testing.T) {
	source := rand.New(rand.NewSource(116))
	for range 1000 {
		w := anyWindow(source)
		w.Cwnd = min(w.Cwnd, 2*w.Datagram+source.Intn(1<<20))
		w.Got = min(w.Got, w.Cwnd-1)
		w.Thresh = w.Datagram + source.Intn(w.Cwnd-w.Datagram+1)
		before := parts(t, source, w, w.Cwnd-w.Got-1)
		want := w
		want.Got = w.Cwnd - 1
		if before != want {
			t.Fatalf("%+v became %+v, want %+v", w, before, want)
		}
		want.Cwnd, want.Got = min(w.Cwnd+w.Datagram, w.Most), 0
		if got := parts(t, source, before, 1); got != want {
			t.Fatalf("%+v became %+v, want %+v", before, got, want)
		}
		if got := parts(t, source, w, w.Cwnd-w.Got); got != want {
			t.Fatalf("%+v became %+v, want %+v", w, got, want)
		}
	}
}

// P11.6: a window that was not full stays as it is; acknowledgements never make one smaller.
func TestNeverSmaller(t *testing.T) {
	source := rand.New(rand.NewSource(117))
	for range 20000 {
		w, p := anyWindow(source), packet(source.Intn(60), anySize(source))
		if got := acked(t, w, p, false); got != w {
			t.Fatalf("%+v was not full and became %+v", w, got)
		}
		if got := acked(t, w, p, true); got.Cwnd < w.Cwnd {
			t.Fatalf("Acked(%+v, %+v): got %+v, which is smaller", w, p, got)
		}
	}
}
