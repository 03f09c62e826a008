package ecn_test

import (
	"math"
	"reflect"
	"testing"

	"sounder/api"
	"sounder/ecn"
)

const most = api.MaxNumber

// noNumbers are ints that are not numbers.
func noNumbers() []int {
	return []int{-1, -2, -256, math.MinInt, math.MinInt + 1, most + 1, most + 2, 1 << 62, math.MaxInt - 1, math.MaxInt}
}

// counts is a frame with counts.
func counts(ect0, ect1, ce int) api.Ack {
	return api.Ack{Marked: true, Ecn: [3]int{ect0, ect1, ce}}
}

// steady is a count for which something was seen of each kind.
func steady() ecn.Count { return ecn.Count{Sent: 20, Seen: [3]int{5, 2, 3}} }

// failed is a count whose validation has failed.
func failed(c ecn.Count) ecn.Count {
	c.Failed = true
	return c
}

// marked is the count after one more marked packet.
func marked(t *testing.T, c ecn.Count) ecn.Count {
	t.Helper()
	d, e := ecn.Marked(c)
	if e != api.OK {
		t.Fatalf("Marked(%+v): error %d", c, e)
	}
	return d
}

// acks checks what a frame does, and gives the count after it.
func acks(t *testing.T, c ecn.Count, a api.Ack, newly int, want ecn.Count, congested bool) ecn.Count {
	t.Helper()
	d, ce, e := ecn.Acked(c, a, newly)
	if e != api.OK || d != want || ce != congested {
		t.Errorf("Acked(%+v, %+v, %d): got %+v, %v, error %d, want %+v, %v", c, a, newly, d, ce, e, want, congested)
	}
	return d
}

// fails checks that a frame fails: nothing but that changes.
func fails(t *testing.T, c ecn.Count, a api.Ack, newly int) {
	t.Helper()
	acks(t, c, a, newly, failed(c), false)
}

// passes checks that a frame does not fail: its counts are seen.
func passes(t *testing.T, c ecn.Count, a api.Ack, newly int, congested bool) ecn.Count {
	t.Helper()
	want := c
	want.Seen = a.Ecn
	return acks(t, c, a, newly, want, congested)
}

// refuses checks that a frame is refused with an error, and nothing beside it.
func refuses(t *testing.T, c ecn.Count, a api.Ack, newly int, want api.Errno) {
	t.Helper()
	if d, ce, e := ecn.Acked(c, a, newly); d != (ecn.Count{}) || ce || e != want {
		t.Errorf("Acked(%+v, %+v, %d): got %+v, %v, error %d, want error %d", c, a, newly, d, ce, e, want)
	}
}

// The chapter's examples.
func TestExamples(t *testing.T) {
	c := ecn.Count{}
	for range 3 {
		c = marked(t, c)
	}
	c = acks(t, c, counts(2, 0, 1), 3, ecn.Count{Sent: 3, Seen: [3]int{2, 0, 1}}, true)
	c = marked(t, c)
	c = acks(t, c, counts(3, 0, 1), 1, ecn.Count{Sent: 4, Seen: [3]int{3, 0, 1}}, false)
	acks(t, c, counts(3, 0, 1), 0, ecn.Count{Sent: 4, Seen: [3]int{3, 0, 1}}, false)
	acks(t, c, counts(2, 0, 2), 0, ecn.Count{Sent: 4, Seen: [3]int{3, 0, 1}, Failed: true}, false)
	acks(t, c, api.Ack{}, 1, ecn.Count{Sent: 4, Seen: [3]int{3, 0, 1}, Failed: true}, false)
}

// P12.1: a count at the edges of its numbers is valid, whether it has failed or
// not, and even if more was seen than sent.
func TestValid(t *testing.T) {
	edges := []int{0, 1, 2, most - 1, most}
	for _, sent := range edges {
		for _, ect0 := range edges {
			for _, ect1 := range edges {
				for _, ce := range edges {
					c := ecn.Count{Sent: sent, Seen: [3]int{ect0, ect1, ce}}
					if ecn.Check(c) != api.OK || ecn.Check(failed(c)) != api.OK {
						t.Errorf("Check(%+v): not OK", c)
					}
				}
			}
		}
	}
}

// wrongCounts are counts that are not valid.
func wrongCounts() []ecn.Count {
	var l []ecn.Count
	for _, n := range noNumbers() {
		for field := range 4 {
			for _, base := range []ecn.Count{{}, steady(), failed(steady()), {Sent: most, Seen: [3]int{most, most, most}}} {
				c := base
				*[]*int{&c.Sent, &c.Seen[0], &c.Seen[1], &c.Seen[2]}[field] = n
				l = append(l, c)
			}
		}
		l = append(l, ecn.Count{Sent: n, Seen: [3]int{n, n, n}, Failed: true})
	}
	return l
}

// P12.1, P12.2: nothing is done with a count that is not valid; its error comes
// first, whatever is wrong beside it.
func TestWrongCounts(t *testing.T) {
	for _, c := range wrongCounts() {
		if e := ecn.Check(c); e != api.ErrArg {
			t.Errorf("Check(%+v): error %d", c, e)
		}
		if d, e := ecn.Marked(c); d != (ecn.Count{}) || e != api.ErrArg {
			t.Errorf("Marked(%+v): got %+v, error %d", c, d, e)
		}
		for _, newly := range []int{0, 1, -1, most + 1} {
			refuses(t, c, api.Ack{}, newly, api.ErrArg)
			refuses(t, c, counts(5, 2, 3), newly, api.ErrArg)
			refuses(t, c, counts(5, 2, -1), newly, api.ErrArg)
			refuses(t, c, api.Ack{Marked: true, Ecn: c.Seen}, newly, api.ErrArg)
		}
	}
}

// P12.1: one more packet was sent, and nothing else is different.
func TestMarked(t *testing.T) {
	for _, sent := range []int{0, 1, 2, 1 << 32, most - 2, most - 1} {
		for _, seen := range [][3]int{{}, {5, 2, 3}, {most, most, most}} {
			c := ecn.Count{Sent: sent, Seen: seen}
			want := ecn.Count{Sent: sent + 1, Seen: seen}
			if d := marked(t, c); d != want {
				t.Errorf("Marked(%+v): got %+v", c, d)
			}
			if d := marked(t, failed(c)); d != failed(want) {
				t.Errorf("Marked(%+v): got %+v", failed(c), d)
			}
		}
	}
}

// P12.1: no more than the greatest number are sent.
func TestMarkedTooMany(t *testing.T) {
	for _, seen := range [][3]int{{}, {5, 2, 3}, {most, most, most}} {
		for _, c := range []ecn.Count{{Sent: most, Seen: seen}, {Sent: most, Seen: seen, Failed: true}} {
			if d, e := ecn.Marked(c); d != (ecn.Count{}) || e != api.ErrRange {
				t.Errorf("Marked(%+v): got %+v, error %d", c, d, e)
			}
		}
	}
}

// P12.2: what is newly acknowledged, and the counts of a frame, are numbers, also
// if they are not looked at: if there are no counts, or validation has failed.
func TestAckedRange(t *testing.T) {
	for _, c := range []ecn.Count{{}, steady(), failed(steady()), {Sent: most, Seen: [3]int{most, 0, 0}}} {
		for _, n := range noNumbers() {
			for _, has := range []bool{true, false} {
				a := api.Ack{Marked: has, Ecn: c.Seen}
				refuses(t, c, a, n, api.ErrRange)
				for i := range 3 {
					b := a
					b.Ecn[i] = n
					refuses(t, c, b, 0, api.ErrRange)
					refuses(t, c, b, 1, api.ErrRange)
					refuses(t, c, b, n, api.ErrRange)
				}
			}
		}
	}
}

// P12.2: without counts a frame fails if it acknowledges marked packets, and
// changes nothing if it does not; what stands in place of its counts is not looked at.
func TestNoCounts(t *testing.T) {
	for _, c := range []ecn.Count{{}, {Sent: 1}, steady(), {Sent: 1, Seen: [3]int{7, 7, 7}}, {Sent: most, Seen: [3]int{most, 0, 0}}} {
		for _, in := range [][3]int{{}, c.Seen, {9, 2, 4}, {0, 9, 0}, {most, most, most}} {
			a := api.Ack{Ecn: in}
			acks(t, c, a, 0, c, false)
			for _, newly := range []int{1, 2, 1 << 32, most} {
				fails(t, c, a, newly)
			}
		}
	}
}

// P12.2: each count may not be less than what was seen, even if the sum is not less.
func TestLess(t *testing.T) {
	c := steady()
	for _, in := range [][3]int{{4, 2, 3}, {4, 2, 4}, {0, 2, 9}, {5, 2, 2}, {6, 2, 2}, {9, 2, 0}, {5, 1, 3}, {6, 0, 4}, {0, 0, 0}} {
		fails(t, c, counts(in[0], in[1], in[2]), 0)
	}
	passes(t, c, counts(5, 2, 3), 0, false)
}

// P12.2: nobody sends ECT(1).
func TestEct1(t *testing.T) {
	for _, n := range []int{3, 4, 20, most} {
		fails(t, steady(), counts(5, n, 3), 0)
		fails(t, steady(), counts(6, n, 4), 2)
	}
	fails(t, ecn.Count{Sent: 9}, counts(1, 1, 0), 1)
	fails(t, ecn.Count{}, counts(0, 1, 0), 0)
	fails(t, ecn.Count{Seen: [3]int{0, most - 1, 0}}, counts(0, most, 0), 0)
	passes(t, ecn.Count{Seen: [3]int{0, most, 0}}, counts(0, most, 0), 0, false)
}

// P12.2: no more is counted than was sent.
func TestMoreThanSent(t *testing.T) {
	for _, c := range []struct{ sent, ect0, ce int }{
		{0, 0, 0}, {1, 1, 0}, {1, 0, 1}, {20, 10, 10}, {20, 20, 0}, {20, 0, 20},
		{most, most, 0}, {most, 0, most}, {most, most - 1, 1}, {most, 1 << 52, 1<<52 - 1},
	} {
		passes(t, ecn.Count{Sent: c.sent}, counts(c.ect0, 0, c.ce), 0, c.ce > 0)
		if c.ect0 < most {
			fails(t, ecn.Count{Sent: c.sent}, counts(c.ect0+1, 0, c.ce), 0)
		}
		if c.ce < most {
			fails(t, ecn.Count{Sent: c.sent}, counts(c.ect0, 0, c.ce+1), 0)
		}
	}
	fails(t, ecn.Count{Sent: most}, counts(most, 0, most), 0)
	// What was seen already may be too much, in a count that no frame has made.
	fails(t, ecn.Count{Sent: 9, Seen: [3]int{5, 0, 5}}, counts(5, 0, 5), 0)
	// ECT(1) is not among them.
	passes(t, ecn.Count{Sent: 1, Seen: [3]int{0, 7, 0}}, counts(1, 7, 0), 1, false)
}

// P12.2: the sum grows at least by what is newly acknowledged.
func TestNewly(t *testing.T) {
	for _, more := range []struct{ ect0, ce int }{{0, 0}, {1, 0}, {0, 1}, {2, 1}, {10, 0}, {0, 10}, {5, 5}} {
		a := counts(5+more.ect0, 2, 3+more.ce)
		sum := more.ect0 + more.ce
		for newly := range 13 {
			if newly <= sum {
				passes(t, steady(), a, newly, more.ce > 0)
				continue
			}
			fails(t, steady(), a, newly)
		}
		fails(t, steady(), a, 1<<53-1)
	}
	passes(t, ecn.Count{Sent: most}, counts(most, 0, 0), most, false)
	fails(t, ecn.Count{Sent: most}, counts(most-1, 0, 0), most)
	fails(t, ecn.Count{Sent: most, Seen: [3]int{1, 0, 0}}, counts(most, 0, 0), most)
	passes(t, ecn.Count{Sent: most, Seen: [3]int{1, 0, 0}}, counts(most, 0, 0), most-1, false)
	// ECT(1) is not among them.
	fails(t, ecn.Count{Sent: 9, Seen: [3]int{0, 7, 0}}, counts(0, 7, 0), 1)
}

// P12.2: congestion is reported if more packets have CE, and for nothing else.
func TestCongestion(t *testing.T) {
	c := steady()
	for _, x := range []struct {
		ect0, ce int
		want     bool
	}{{5, 3, false}, {6, 3, false}, {17, 3, false}, {5, 4, true}, {6, 4, true}, {5, 15, true}} {
		passes(t, c, counts(x.ect0, 2, x.ce), 0, x.want)
	}
	c = passes(t, c, counts(6, 2, 4), 2, true)
	c = passes(t, c, counts(6, 2, 4), 0, false)
	passes(t, c, counts(6, 2, 5), 1, true)
}

// P12.2: the ranges and the delay of a frame do not matter, and are only read.
func TestOtherFields(t *testing.T) {
	for _, c := range []ecn.Count{steady(), failed(steady())} {
		for _, a := range []api.Ack{{}, counts(6, 2, 4), counts(6, 2, 2)} {
			for newly := range 3 {
				want, congested, _ := ecn.Acked(c, a, newly)
				for _, delay := range []int{1, most, -1, math.MinInt, math.MaxInt} {
					for _, l := range [][]api.Range{nil, {}, {{Lo: 7, Hi: 8}}, {{Lo: -9, Hi: math.MaxInt}, {Lo: 8, Hi: 7}}} {
						b := a
						b.Delay, b.Ranges = delay, append([]api.Range(nil), l...)
						acks(t, c, b, newly, want, congested)
						if len(l) > 0 && !reflect.DeepEqual(b.Ranges, l) {
							t.Errorf("Acked changes ranges: %v, which were %v", b.Ranges, l)
						}
					}
				}
			}
		}
	}
}

// P12.2: after a failure nothing changes any more, whatever the frame is.
func TestAfterFailure(t *testing.T) {
	c := failed(steady())
	for _, a := range []api.Ack{{}, counts(5, 2, 3), counts(6, 2, 4), counts(4, 2, 3), counts(0, 0, 0), counts(most, most, most)} {
		for _, newly := range []int{0, 1, 2, most} {
			acks(t, c, a, newly, c, false)
		}
	}
}
