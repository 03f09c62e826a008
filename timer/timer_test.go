package timer_test

import (
	"math"
	"testing"

	"sounder/api"
	"sounder/rtt"
	"sounder/timer"
)

const (
	most  = api.MaxTime
	never = api.Never
	room  = api.MaxRoom
)

// The estimate of the chapter's examples, and the bases that it has with their
// delay.
const (
	delay    = 5000000
	hereBase = 3200000
	appBase  = 8200000
)

func example() api.Rtt { return api.Rtt{Latest: 100, Min: 100, Smooth: 2000000, Var: 300000} }

// none is no timeout.
var none = timer.Due{Kind: 0, Space: 0, Time: -1}

// quiet is the state of a space in which nothing is in flight.
func quiet() timer.Fact { return timer.Fact{Loss: never, Last: never} }

// keyed is that of one with keys.
func keyed() timer.Fact { return timer.Fact{Keys: true, Loss: never, Last: never} }

// flying is that of one with packets in flight.
func flying(last, many int) timer.Fact { return timer.Fact{Loss: never, Last: last, Many: many} }

// losing is that of one in which packets may be lost.
func losing(loss int) timer.Fact { return timer.Fact{Loss: loss, Last: never} }

// state is one of three spaces, with the peer not sure, at 100.
func state(initial, hand, app timer.Fact) timer.Facts {
	return timer.Facts{Spaces: [3]timer.Fact{initial, hand, app}, Now: 100}
}

func confirmed(f timer.Facts) timer.Facts {
	f.Confirmed = true
	return f
}

func limited(f timer.Facts) timer.Facts {
	f.Limited = true
	return f
}

func sure(f timer.Facts) timer.Facts {
	f.Peer = true
	return f
}

// picks checks the next timeout with the example's estimate, delay and maximum, and
// a count of 1.
func picks(t *testing.T, f timer.Facts, want timer.Due) {
	t.Helper()
	picksWith(t, f, example(), delay, 1, 10, want)
}

func picksWith(t *testing.T, f timer.Facts, r api.Rtt, delay, count, bound int, want timer.Due) {
	t.Helper()
	if got := timer.Pick(f, r, delay, count, bound); got != want {
		t.Errorf("Pick(%+v, %+v, %d, %d, %d): got %+v, want %+v", f, r, delay, count, bound, got, want)
	}
}

// may checks whether a state is valid, and that no timeout is next if it is not.
func may(t *testing.T, f timer.Facts, want bool) {
	t.Helper()
	if got := timer.May(f); got != want {
		t.Errorf("May(%+v): got %v, want %v", f, got, want)
	}
	if !want {
		picks(t, f, none)
	}
}

func loss(space, time int) timer.Due  { return timer.Due{Kind: 1, Space: space, Time: time} }
func probe(space, time int) timer.Due { return timer.Due{Kind: 2, Space: space, Time: time} }

// The kinds, by their numbers.
func TestKinds(t *testing.T) {
	if timer.KindNone != 0 || timer.KindLoss != 1 || timer.KindProbe != 2 {
		t.Errorf("the kinds are %d, %d, %d", timer.KindNone, timer.KindLoss, timer.KindProbe)
	}
	// They are constants without a type of their own.
	var small int8 = timer.KindProbe
	if float64(small) != timer.KindProbe {
		t.Error("a kind is not 2")
	}
}

// P18.1: the chapter's examples.
func TestExamples(t *testing.T) {
	two := state(flying(10, 1), flying(5, 2), quiet())
	picks(t, two, probe(1, 6400005))
	two.Spaces[2].Loss = 9
	picks(t, two, loss(2, 9))
	app := state(quiet(), quiet(), flying(7, 1))
	picks(t, app, none)
	picks(t, confirmed(app), probe(2, 16400007))
	start := state(keyed(), quiet(), quiet())
	picks(t, start, probe(0, 6400100))
	picks(t, sure(start), none)
}

// P18.1: the examples of the document that show a timeout.
func TestDocument(t *testing.T) {
	r, e := rtt.New(333000000)
	if e != api.OK {
		t.Fatal(e)
	}
	start := state(keyed(), quiet(), quiet())
	start.Now = 0
	picksWith(t, start, r, 25000000, 0, 6, probe(0, 999000000))
	start.Now = 999000000
	picksWith(t, start, r, 25000000, 1, 6, probe(0, 2997000000))
}

// P18.1: which states are valid: each field at its edges, in each space.
func TestMay(t *testing.T) {
	ends := map[int]bool{
		math.MinInt: false, -2: false, -1: true, 0: true, 1: true, most - 1: true, most: true,
		most + 1: false, 1 << 62: false, math.MaxInt: false,
	}
	counts := map[int]bool{
		math.MinInt: false, -1: false, 0: true, 1: true, room: true, room + 1: false, most: false, math.MaxInt: false,
	}
	for space := range api.Spaces {
		for n, valid := range ends {
			f := state(keyed(), keyed(), keyed())
			f.Spaces[space].Loss = n
			may(t, f, valid)
			f.Spaces[space] = flying(n, 1)
			may(t, f, valid)
		}
		for n, valid := range counts {
			f := state(keyed(), keyed(), keyed())
			f.Spaces[space].Many = n
			may(t, f, valid)
		}
	}
	for n, valid := range ends {
		f := state(keyed(), keyed(), keyed())
		f.Now = n
		// The current time is a number: Never is none.
		may(t, f, valid && n != never)
		f = confirmed(state(flying(0, 1), losing(5), quiet()))
		f.Now = n
		may(t, f, valid && n != never)
	}
	// What is zero is valid: a packet may be lost at 0 then.
	may(t, timer.Facts{}, true)
	picks(t, timer.Facts{}, loss(0, 0))
}

// P18.1: fields that do not belong together are valid: Many without a Last, a Last
// without Many, packets in flight without keys, times after Now.
func TestMayTogether(t *testing.T) {
	may(t, state(flying(never, 1), flying(most, 0), flying(most, room)), true)
	may(t, state(losing(most), losing(0), keyed()), true)
}

// P18.1: there is no timeout for an estimate that is not valid, of any kind.
func TestEstimate(t *testing.T) {
	states := []timer.Facts{
		state(losing(5), quiet(), quiet()),
		state(flying(5, 1), quiet(), quiet()),
		state(keyed(), keyed(), quiet()),
	}
	wrong := []api.Rtt{
		{Latest: 1, Min: 2, Smooth: 2},
		{Latest: 2, Min: 2, Smooth: 1},
		{Latest: -1},
		{Smooth: most + 1},
		{Var: -1},
		{Latest: 100, Min: 100, Smooth: 2000000, Var: 300000, First: -1},
		{Smooth: 333000000, Var: 166500001, First: -1},
		{First: most + 1},
	}
	for _, f := range states {
		for _, r := range wrong {
			picksWith(t, f, r, delay, 0, 10, none)
		}
	}
	// A zero estimate is valid, and so is a new one.
	picksWith(t, states[1], api.Rtt{}, delay, 0, 10, probe(0, 1000005))
	picksWith(t, states[1], api.Rtt{Smooth: 333000000, Var: 166500000, First: -1}, delay, 0, 10, probe(0, 999000005))
}

// P18.1, P18.3: loss detection is of the earliest space, the first one of equal
// ones, and comes before all probes, also if nothing may be sent.
func TestLoss(t *testing.T) {
	picks(t, state(losing(9), losing(8), losing(7)), loss(2, 7))
	picks(t, state(losing(9), losing(7), losing(8)), loss(1, 7))
	picks(t, state(losing(7), losing(8), losing(9)), loss(0, 7))
	picks(t, state(losing(7), losing(7), losing(7)), loss(0, 7))
	picks(t, state(losing(8), losing(7), losing(7)), loss(1, 7))
	picks(t, state(quiet(), losing(7), losing(7)), loss(1, 7))
	picks(t, state(quiet(), quiet(), losing(0)), loss(2, 0))
	picks(t, state(losing(most), losing(most), quiet()), loss(0, most))

	// SpaceApp counts without a confirmed handshake, and a space without keys.
	late := state(flying(0, 1), flying(0, 1), losing(most))
	picks(t, late, loss(2, most))
	picks(t, limited(late), loss(2, most))
	picks(t, limited(sure(late)), loss(2, most))
	picks(t, state(keyed(), keyed(), losing(most)), loss(2, most))
}

// P18.1: nothing is probed if nothing may be sent.
func TestLimited(t *testing.T) {
	picks(t, limited(confirmed(state(flying(1, 1), flying(2, 1), flying(3, 1)))), none)
	picks(t, limited(state(keyed(), keyed(), keyed())), none)
}

// P18.1: a probe is of the space whose sum is the earliest one, the first one of
// equal ones; SpaceApp waits longer, and counts if the handshake is confirmed.
func TestProbe(t *testing.T) {
	const wait, appWait = 2 * hereBase, 2 * appBase
	picks(t, state(flying(5, 1), flying(5, 1), quiet()), probe(0, 5+wait))
	picks(t, state(flying(6, 1), flying(5, 1), quiet()), probe(1, 5+wait))
	picks(t, state(quiet(), flying(5, 1), quiet()), probe(1, 5+wait))
	all := state(flying(appWait, 1), flying(appWait, 1), flying(wait, 1))
	picks(t, confirmed(all), probe(0, appWait+wait))
	all.Spaces[2].Last--
	picks(t, confirmed(all), probe(2, appWait+wait-1))
	picks(t, all, probe(0, appWait+wait))
	// Many packets count as one, and so does the peer that is sure.
	picks(t, sure(state(flying(6, room), flying(5, 1), quiet())), probe(1, 5+wait))
}

// P18.1: packets in flight of which it is not known when they were sent do not
// count, nor does when one was sent that is not in flight any more; but nothing is
// probed for the handshake while any are in flight.
func TestProbeWithout(t *testing.T) {
	const wait = 2 * hereBase
	picks(t, state(flying(5, 0), flying(7, 1), quiet()), probe(1, 7+wait))
	picks(t, state(flying(never, 1), flying(7, 1), quiet()), probe(1, 7+wait))
	for space := range api.Spaces {
		f := state(keyed(), keyed(), keyed())
		f.Spaces[space].Many = 1
		picks(t, f, none)
		picks(t, confirmed(f), none)
	}
	hidden := state(keyed(), keyed(), flying(5, 1))
	picks(t, hidden, none)
	picks(t, state(flying(5, 0), flying(7, 0), flying(8, 0)), none)
}

// P18.1: without packets in flight SpaceHand is probed, or else SpaceInitial, from
// Now on, as long as the peer is not sure; SpaceApp never is.
func TestRescue(t *testing.T) {
	const wait = 2 * hereBase
	for _, app := range []timer.Fact{keyed(), quiet()} {
		picks(t, state(keyed(), keyed(), app), probe(1, 100+wait))
		picks(t, state(quiet(), keyed(), app), probe(1, 100+wait))
		picks(t, state(keyed(), quiet(), app), probe(0, 100+wait))
		picks(t, state(quiet(), quiet(), app), none)
		picks(t, confirmed(state(keyed(), keyed(), app)), probe(1, 100+wait))
		picks(t, sure(state(keyed(), keyed(), app)), none)
	}
	// When packets were sent before does not count.
	old := state(keyed(), keyed(), keyed())
	old.Spaces[0].Last, old.Spaces[1].Last = 3, 4
	picks(t, old, probe(1, 100+wait))
	old.Now = 0
	picks(t, old, probe(1, wait))
}

// P18.1: the wait depends on the count, up to the maximum, and in SpaceApp on the
// delay; arguments that are negative or too great count as chapter 8 says.
func TestWait(t *testing.T) {
	f := confirmed(state(flying(10, 1), quiet(), quiet()))
	app := confirmed(state(quiet(), quiet(), flying(10, 1)))
	for _, c := range []struct{ delay, count, bound, times, extra int }{
		{delay, 0, 10, 1, delay},
		{0, 0, 10, 1, 0},
		{delay, 3, 10, 8, delay},
		{delay, 3, 2, 4, delay},
		{delay, 3, 0, 1, delay},
		{delay, -1, 10, 1, delay},
		{delay, 3, -1, 1, delay},
		{-5, 3, 10, 8, 0},
		{math.MinInt, math.MinInt, math.MinInt, 1, 0},
	} {
		picksWith(t, f, example(), c.delay, c.count, c.bound, probe(0, 10+c.times*hereBase))
		picksWith(t, app, example(), c.delay, c.count, c.bound, probe(2, 10+c.times*(hereBase+c.extra)))
	}
	picksWith(t, f, example(), delay, math.MaxInt, math.MaxInt, probe(0, most))
	picksWith(t, app, example(), math.MaxInt, 0, 0, probe(2, most))
}

// P18.1: a sum beyond the greatest time is that, so that spaces that differ become
// equal ones.
func TestGreatest(t *testing.T) {
	picks(t, state(flying(most, 1), flying(most-1, 1), quiet()), probe(0, most))
	picks(t, state(flying(most, 1), flying(most-2*hereBase, 1), quiet()), probe(0, most))
	picks(t, state(flying(most, 1), flying(most-2*hereBase-1, 1), quiet()), probe(1, most-1))
	late := state(keyed(), quiet(), quiet())
	late.Now = most
	picks(t, late, probe(0, most))
}
