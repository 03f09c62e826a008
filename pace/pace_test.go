package pace_test

import (
	"math"
	"reflect"
	"testing"

	"sounder/api"
	"sounder/bucket"
	"sounder/pace"
)

const (
	most      = api.MaxTime
	mostBurst = 1 << 30
	mostSize  = api.MaxSize
	mostCwnd  = api.MaxWindow
)

// noTimes are ints at which nothing happens.
func noTimes() []int {
	return []int{-1, -2, -256, math.MinInt, math.MinInt + 1, most + 1, most + 2, 1 << 62, math.MaxInt - 1, math.MaxInt}
}

// noSizes are sizes that no packet has.
func noSizes() []int {
	return append(noTimes(), 0, mostSize+1, mostSize+2, 1<<16+1200, 1<<32, 1<<32+1, most)
}

// noWindows are windows that there are not.
func noWindows() []int { return append(noTimes(), 0, mostCwnd+1, mostCwnd+2, 1<<41, 1<<43, most) }

// made is a new pacer.
func made(t *testing.T, burst, at int) *pace.Pace {
	t.Helper()
	p, e := pace.New(burst, at)
	if p == nil || e != api.OK {
		t.Fatalf("New(%d, %d): got %v, error %d", burst, at, p, e)
	}
	return p
}

// paced is a new pacer that has a rate.
func paced(t *testing.T, burst, at, cwnd, smooth int) *pace.Pace {
	t.Helper()
	p := made(t, burst, at)
	set(t, p, at, cwnd, smooth, api.OK)
	return p
}

// example is the pacer of the chapter's examples: 5 bytes in 2 nanoseconds.
func example(t *testing.T) *pace.Pace {
	t.Helper()
	return paced(t, 3000, 0, 12000, 6000)
}

func set(t *testing.T, p *pace.Pace, at, cwnd, smooth int, want api.Errno) {
	t.Helper()
	if e := p.Set(at, cwnd, smooth); e != want {
		t.Errorf("Set(%d, %d, %d): error %d, want %d", at, cwnd, smooth, e, want)
	}
}

// send checks Can, too, which must change nothing.
func send(t *testing.T, p *pace.Pace, at, size int, want api.Errno) {
	t.Helper()
	before := p.Copy()
	if can := p.Can(at, size); can != (want == api.OK) {
		t.Errorf("Can(%d, %d): got %v", at, size, can)
	}
	same(t, p, before)
	if e := p.Send(at, size); e != want {
		t.Errorf("Send(%d, %d): error %d, want %d", at, size, e, want)
	}
	if want != api.OK {
		same(t, p, before)
	}
}

// when checks that asking changes nothing, too.
func when(t *testing.T, p *pace.Pace, size, want int) {
	t.Helper()
	before := p.Copy()
	if at := p.When(size); at != want {
		t.Errorf("When(%d): got %d, want %d", size, at, want)
	}
	same(t, p, before)
}

// left checks that asking changes nothing, too.
func left(t *testing.T, p *pace.Pace, at, want int) {
	t.Helper()
	before := p.Copy()
	if n := p.Left(at); n != want {
		t.Errorf("Left(%d): got %d, want %d", at, n, want)
	}
	same(t, p, before)
}

func rate(t *testing.T, p *pace.Pace, num, den int) {
	t.Helper()
	if r := p.Rate(); r != (bucket.Rate{Num: num, Den: den}) {
		t.Errorf("Rate: got %v, want %d in %d", r, num, den)
	}
}

// same checks that two pacers are alike in all that they hold.
func same(t *testing.T, p, other *pace.Pace) {
	t.Helper()
	if !reflect.DeepEqual(p, other) {
		t.Errorf("the pacers differ: %+v, %+v", p, other)
	}
}

// The chapter's examples.
func TestExamples(t *testing.T) {
	p := example(t)
	rate(t, p, 60000, 24000)
	send(t, p, 0, 1200, api.OK)
	send(t, p, 0, 1200, api.OK)
	send(t, p, 0, 1200, api.ErrPace)
	when(t, p, 1200, 240)
	left(t, p, 100, 850)
	send(t, p, 239, 1200, api.ErrPace)
	send(t, p, 240, 1200, api.OK)
	if p.Can(240, 1) {
		t.Error("Can(240, 1): got true")
	}
	left(t, p, 10000, 3000)
	set(t, p, 200, 1, 1, api.ErrBack)
	set(t, p, 300, 0, 1, api.ErrArg)
	send(t, p, 300, 0, api.ErrArg)
	set(t, p, 300, 2400, 0, api.OK)
	rate(t, p, 12000, 1)
}

// The promises' first line: a nil and a zero Pace, in each method, whatever the
// arguments are.
func TestNoPace(t *testing.T) {
	for _, p := range []*pace.Pace{nil, {}, new(pace.Pace)} {
		for range 2 {
			for _, n := range append(noTimes(), 0, 1, 1200, most) {
				for _, size := range append(noSizes(), 1, 1200, mostSize) {
					if e := p.Send(n, size); e != api.ErrNil {
						t.Errorf("Send(%d, %d): error %d", n, size, e)
					}
					if p.Can(n, size) {
						t.Errorf("Can(%d, %d): got true", n, size)
					}
					if at := p.When(size); at != api.Never {
						t.Errorf("When(%d): got %d", size, at)
					}
					set(t, p, n, size, n, api.ErrNil)
					set(t, p, n, 12000, size, api.ErrNil)
				}
				if got := p.Left(n); got != 0 {
					t.Errorf("Left(%d): got %d", n, got)
				}
			}
			rate(t, p, 0, 0)
			if c := p.Copy(); c != nil {
				t.Errorf("Copy: got %+v", c)
			}
		}
	}
}

// P14.1: a new pacer is full, and has no rate yet: nothing fills it.
func TestNew(t *testing.T) {
	for _, burst := range []int{1, 2, 1200, 12000, mostSize, 1 << 29, mostBurst - 1, mostBurst} {
		for _, at := range []int{0, 1, 1 << 32, most - 1, most} {
			p := made(t, burst, at)
			rate(t, p, 0, 1)
			left(t, p, at, burst)
			left(t, p, most, burst)
			left(t, p, at-1, 0)
			size := min(burst, mostSize)
			when(t, p, size, at)
			send(t, p, at, size, api.OK)
			left(t, p, at, burst-size)
			left(t, p, most, burst-size)
			if burst <= mostSize {
				when(t, p, 1, api.Never)
				send(t, p, most, 1, api.ErrPace)
			}
		}
	}
}

// P14.1: the errors of a bucket.
func TestNewWrong(t *testing.T) {
	for _, burst := range append(noTimes(), 0, mostBurst+1, mostBurst+2, 1<<31, 1<<32, 1<<32+1, most) {
		for _, at := range append(noTimes(), 0, 5, most) {
			refusesNew(t, burst, at)
		}
	}
	for _, at := range noTimes() {
		refusesNew(t, 1, at)
		refusesNew(t, 12000, at)
		refusesNew(t, mostBurst, at)
	}
}

func refusesNew(t *testing.T, burst, at int) {
	t.Helper()
	if p, e := pace.New(burst, at); p != nil || e != api.ErrArg {
		t.Errorf("New(%d, %d): got %v, error %d", burst, at, p, e)
	}
}

// P14.1: five times the window in four times the smoothed time, from 1 to MaxTime.
func TestSetRates(t *testing.T) {
	for _, smooth := range []struct{ time, den int }{
		{0, 1}, {1, 4}, {2, 8}, {3, 12}, {1000000, 4000000}, {333000000, 1332000000}, {60000000000, 240000000000},
		{1<<51 - 2, 1<<53 - 8}, {1<<51 - 1, 1<<53 - 4}, {1 << 51, most}, {1<<51 + 1, most}, {1 << 52, most}, {most - 1, most}, {most, most},
	} {
		for _, cwnd := range []struct{ bytes, num int }{{1, 5}, {2, 10}, {2400, 12000}, {12000, 60000}, {1 << 30, 5 << 30}, {mostCwnd - 1, 5<<40 - 5}, {mostCwnd, 5 << 40}} {
			p := paced(t, 3000, 7, cwnd.bytes, smooth.time)
			rate(t, p, cwnd.num, smooth.den)
			set(t, p, 7, 12000, 6000, api.OK)
			rate(t, p, 60000, 24000)
			set(t, p, most, cwnd.bytes, smooth.time, api.OK)
			rate(t, p, cwnd.num, smooth.den)
		}
	}
}

// P14.1: the fastest and the slowest rate fill as they should.
func TestSetEdgeRates(t *testing.T) {
	fast := paced(t, mostBurst, 0, mostCwnd, 0)
	send(t, fast, 0, mostSize, api.OK)
	left(t, fast, 0, mostBurst-mostSize)
	left(t, fast, 1, mostBurst)
	slow := paced(t, 10, 0, 1, most)
	send(t, slow, 0, 10, api.OK)
	fifth := (most + 4) / 5
	left(t, slow, fifth-1, 0)
	left(t, slow, fifth, 1)
	left(t, slow, most-1, 4)
	left(t, slow, most, 5)
	when(t, slow, 1, fifth)
	when(t, slow, 5, most)
	when(t, slow, 6, api.Never)
	when(t, slow, 10, api.Never)
	send(t, slow, most-1, 5, api.ErrPace)
	send(t, slow, most, 5, api.OK)
	send(t, slow, most, 1, api.ErrPace)
}

// P14.1: no argument beyond its edges, whatever the others are, and also at a time
// that goes back.
func TestSetWrong(t *testing.T) {
	p := example(t)
	send(t, p, 50, 1200, api.OK)
	before := p.Copy()
	for _, at := range []int{0, 49, 50, 51, most} {
		for _, cwnd := range noWindows() {
			for _, smooth := range append(noTimes(), 0, 6000, most) {
				set(t, p, at, cwnd, smooth, api.ErrArg)
			}
		}
		for _, smooth := range noTimes() {
			for _, cwnd := range []int{1, 12000, mostCwnd} {
				set(t, p, at, cwnd, smooth, api.ErrArg)
			}
		}
	}
	for _, at := range noTimes() {
		for _, cwnd := range append(noWindows(), 1, 12000, mostCwnd) {
			for _, smooth := range append(noTimes(), 0, 6000, most) {
				set(t, p, at, cwnd, smooth, api.ErrArg)
			}
		}
	}
	same(t, p, before)
	rate(t, p, 60000, 24000)
}

// P14.1: time does not go back, but it may stand.
func TestSetBack(t *testing.T) {
	p := paced(t, 3000, 50, 12000, 6000)
	for _, at := range []int{0, 1, 48, 49} {
		set(t, p, at, 12000, 6000, api.ErrBack)
		set(t, p, at, 1, most, api.ErrBack)
	}
	rate(t, p, 60000, 24000)
	set(t, p, 50, 1, 1, api.OK)
	set(t, p, 50, 2, 2, api.OK)
	set(t, p, 60, 3, 3, api.OK)
	set(t, p, 59, 4, 4, api.ErrBack)
	rate(t, p, 15, 12)
	set(t, p, most, 4, 4, api.OK)
	set(t, p, most, 5, 5, api.OK)
	set(t, p, most-1, 6, 6, api.ErrBack)
	rate(t, p, 25, 20)
}

// P14.1: up to the time of a call it fills at the rate of before, from then on at
// the new one.
func TestSetFills(t *testing.T) {
	p := example(t)
	send(t, p, 0, 3000, api.OK)
	set(t, p, 100, 4, 25, api.OK)
	rate(t, p, 20, 100)
	left(t, p, 99, 0)
	left(t, p, 100, 250)
	left(t, p, 200, 270)
	set(t, p, 200, 12000, 6000, api.OK)
	left(t, p, 200, 270)
	left(t, p, 300, 520)
	when(t, p, 300, 212)
	// A new pacer has been filled by nothing until it gets its first rate.
	late := made(t, 3000, 0)
	send(t, late, 0, 3000, api.OK)
	set(t, late, 1000, 12000, 6000, api.OK)
	left(t, late, 1000, 0)
	left(t, late, 1100, 250)
}

// P14.1, chapter 13: a fraction of a byte goes with its rate: it is kept if the same
// rate is set once more, and lost by any other one, also by one that is as fast.
func TestSetKeepsRest(t *testing.T) {
	for _, c := range []struct{ cwnd, smooth, at80, at81 int }{
		{1, 100, 1, 1}, {2, 100, 0, 0}, {2, 200, 0, 0}, {1, 99, 0, 0}, {mostCwnd, most, 0, 0}, {40, 100, 0, 1}, {80, 100, 1, 2},
	} {
		p := paced(t, 1000, 0, 1, 100)
		send(t, p, 0, 1000, api.OK)
		set(t, p, 79, c.cwnd, c.smooth, api.OK)
		left(t, p, 80, c.at80)
		left(t, p, 81, c.at81)
	}
	// It is lost where the bucket is filled at the other rate, not where that is set.
	p := paced(t, 1000, 0, 1, 100)
	send(t, p, 0, 1000, api.OK)
	set(t, p, 79, 2, 100, api.OK)
	set(t, p, 79, 1, 100, api.OK)
	left(t, p, 80, 0)
	left(t, p, 159, 1)
	// Also a packet that is too early loses none of it.
	q := paced(t, 1000, 0, 1, 100)
	send(t, q, 0, 1000, api.OK)
	send(t, q, 79, 1, api.ErrPace)
	send(t, q, 80, 1, api.OK)
	send(t, q, 159, 1, api.ErrPace)
	send(t, q, 160, 1, api.OK)
}

// P14.2: the least and the greatest packet, and none beyond these.
func TestSendSizes(t *testing.T) {
	p := paced(t, 1<<20, 50, 12000, 6000)
	send(t, p, 50, 1, api.OK)
	left(t, p, 50, 1<<20-1)
	send(t, p, 50, mostSize, api.OK)
	left(t, p, 50, 1<<20-1<<16)
	for _, size := range noSizes() {
		for _, at := range append(noTimes(), 0, 49, 50, 51, most) {
			send(t, p, at, size, api.ErrArg)
		}
	}
	for _, at := range noTimes() {
		for _, size := range []int{1, 1200, mostSize} {
			send(t, p, at, size, api.ErrArg)
		}
	}
	left(t, p, 50, 1<<20-1<<16)
}

// P14.2: time does not go back, but it may stand; that counts before the tokens.
func TestSendBack(t *testing.T) {
	p := paced(t, 3000, 50, 12000, 6000)
	for _, size := range []int{1, 3000, 3001, mostSize} {
		for _, at := range []int{0, 1, 48, 49} {
			send(t, p, at, size, api.ErrBack)
		}
	}
	send(t, p, 50, 1000, api.OK)
	send(t, p, 50, 1000, api.OK)
	send(t, p, 52, 1000, api.OK)
	send(t, p, 51, 1, api.ErrBack)
	send(t, p, 51, 1000, api.ErrBack)
	set(t, p, 51, 1, 1, api.ErrBack)
	left(t, p, 51, 0)
	left(t, p, 52, 5)
	send(t, p, most, 3000, api.OK)
	send(t, p, most, 1, api.ErrPace)
	send(t, p, most-1, 1, api.ErrBack)
}

// P14.2: as many bytes as there are tokens, to the last one; a packet that is too
// early does not advance the pacer.
func TestSendEarly(t *testing.T) {
	p := example(t)
	send(t, p, 0, 3001, api.ErrPace)
	send(t, p, most, 3001, api.ErrPace)
	send(t, p, 0, 3000, api.OK)
	send(t, p, 0, 1, api.ErrPace)
	send(t, p, 100, 251, api.ErrPace)
	send(t, p, 99, 248, api.ErrPace)
	send(t, p, 99, 247, api.OK)
	send(t, p, 100, 4, api.ErrPace)
	send(t, p, 100, 3, api.OK)
	send(t, p, 1300, 3001, api.ErrPace)
	send(t, p, 1299, 2997, api.OK)
	left(t, p, 1299, 0)
	left(t, p, 1300, 3)
}

// P14.3: Never for a size that no packet has, or that is greater than the burst;
// its time if there are enough tokens; and where the end of the times is.
func TestWhen(t *testing.T) {
	big := paced(t, mostBurst, 50, 12000, 6000)
	for _, size := range noSizes() {
		when(t, big, size, api.Never)
	}
	when(t, big, 1, 50)
	when(t, big, mostSize, 50)
	p := paced(t, 3000, 50, 12000, 6000)
	when(t, p, 3000, 50)
	when(t, p, 3001, api.Never)
	when(t, p, mostSize, api.Never)
	send(t, p, 60, 2999, api.OK)
	when(t, p, 1, 60)
	for i, at := range []int{61, 61, 62, 62, 62, 63, 63, 64, 64, 64} {
		when(t, p, i+2, at)
	}
	when(t, p, 3000, 1260)
	late := paced(t, 3000, most-100, 12000, 6000)
	send(t, late, most-100, 3000, api.OK)
	when(t, late, 248, most)
	when(t, late, 250, most)
	when(t, late, 251, api.Never)
	send(t, late, most, 1, api.OK)
	when(t, late, 249, most)
	when(t, late, 250, api.Never)
}

// P14.3: what is there at a time, but nothing at one that may not come.
func TestLeft(t *testing.T) {
	p := paced(t, 3000, 50, 12000, 6000)
	for _, at := range append(noTimes(), 0, 1, 49) {
		left(t, p, at, 0)
	}
	left(t, p, 50, 3000)
	left(t, p, most, 3000)
	send(t, p, 60, 3000, api.OK)
	for _, at := range append(noTimes(), 0, 50, 59) {
		left(t, p, at, 0)
	}
	for i, n := range []int{0, 2, 5, 7, 10, 12, 15} {
		left(t, p, 60+i, n)
	}
	left(t, p, 1259, 2997)
	left(t, p, 1260, 3000)
	left(t, p, 1261, 3000)
	left(t, p, most, 3000)
}

// P14.3: Can depends on the time alone where nothing is sent.
func TestCan(t *testing.T) {
	p := example(t)
	send(t, p, 0, 3000, api.OK)
	for at := range 1300 {
		n := min(at*5/2, 3000)
		if n > 0 && !p.Can(at, n) || p.Can(at, n+1) {
			t.Fatalf("at %d there are not %d", at, n)
		}
	}
}

// P14.3: a copy goes on by itself, and so does the pacer.
func TestCopy(t *testing.T) {
	p := example(t)
	send(t, p, 1, 2000, api.OK)
	c := p.Copy()
	if c == p {
		t.Fatal("the copy is the pacer itself")
	}
	same(t, c, p)
	rate(t, c, 60000, 24000)
	send(t, c, 10, 1000, api.OK)
	set(t, c, 20, 1, 1, api.OK)
	rate(t, p, 60000, 24000)
	left(t, p, 1, 1000)
	left(t, p, 10, 1022)
	set(t, p, 5, 12000, 3000, api.OK)
	send(t, p, 6, 1000, api.OK)
	rate(t, p, 60000, 12000)
	rate(t, c, 5, 4)
	left(t, c, 20, 47)
	left(t, c, 24, 52)
	left(t, p, 6, 15)
	set(t, c, 20, 7, 7, api.OK)
	rate(t, p, 60000, 12000)
	left(t, p, 6, 15)
}

// P14.4: after an error all goes on as without it.
func TestErrorsChangeNothing(t *testing.T) {
	p := paced(t, 1000, 0, 1, 100)
	send(t, p, 0, 999, api.OK)
	send(t, p, 79, 1, api.OK)
	for _, wrong := range []func(p *pace.Pace) api.Errno{
		func(p *pace.Pace) api.Errno { return p.Set(78, 2, 100) },
		func(p *pace.Pace) api.Errno { return p.Set(-1, 2, 100) },
		func(p *pace.Pace) api.Errno { return p.Set(most+1, 2, 100) },
		func(p *pace.Pace) api.Errno { return p.Set(90, 0, 100) },
		func(p *pace.Pace) api.Errno { return p.Set(90, 2, -1) },
		func(p *pace.Pace) api.Errno { return p.Set(90, mostCwnd+1, most+1) },
		func(p *pace.Pace) api.Errno { return p.Send(78, 1) },
		func(p *pace.Pace) api.Errno { return p.Send(-1, 1) },
		func(p *pace.Pace) api.Errno { return p.Send(most+1, 1) },
		func(p *pace.Pace) api.Errno { return p.Send(90, 0) },
		func(p *pace.Pace) api.Errno { return p.Send(90, mostSize+1) },
		func(p *pace.Pace) api.Errno { return p.Send(90, 2) },
		func(p *pace.Pace) api.Errno { return p.Send(most, 1001) },
	} {
		c := p.Copy()
		if e := wrong(c); e == api.OK {
			t.Error("a wrong call is OK")
		}
		same(t, c, p)
		rate(t, c, 5, 400)
		left(t, c, 79, 0)
		left(t, c, 80, 1)
		left(t, c, 160, 2)
		when(t, c, 1, 80)
	}
}
