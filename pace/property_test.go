package pace_test

import (
	"math/big"
	"math/rand"
	"testing"

	"sounder/api"
	"sounder/bucket"
	"sounder/pace"
)

// defined is a pacer by the definitions of chapters 13 and 14, in arithmetic
// without bounds.
type defined struct {
	burst, tokens, time int
	rest                int
	own                 bucket.Rate // the bucket's, at which it was filled last
	rate                bucket.Rate // the pacer's
}

// advanced is the pacer after advancing it.
func (d defined) advanced(to int) defined {
	parts := new(big.Int).Mul(big.NewInt(int64(to-d.time)), big.NewInt(int64(d.rate.Num)))
	if d.own == d.rate {
		parts.Add(parts, big.NewInt(int64(d.rest)))
	}
	more, rest := new(big.Int).QuoRem(parts, big.NewInt(int64(d.rate.Den)), new(big.Int))
	more.Add(more, big.NewInt(int64(d.tokens)))
	d.tokens, d.rest, d.time, d.own = d.burst, 0, to, d.rate
	if more.Cmp(big.NewInt(int64(d.burst))) < 0 {
		d.tokens, d.rest = int(more.Int64()), int(rest.Int64())
	}
	return d
}

// rateOf is the rate for a window and a smoothed time.
func rateOf(cwnd, smooth int) bucket.Rate {
	den := new(big.Int).Mul(big.NewInt(4), big.NewInt(int64(smooth)))
	r := bucket.Rate{Num: 5 * cwnd, Den: most}
	if den.Cmp(big.NewInt(most)) < 0 {
		r.Den = max(int(den.Int64()), 1)
	}
	return r
}

// when is the earliest time at which so many may go, found by halving: the later it
// is, the more there are.
func (d defined) when(size int) int {
	if d.tokens >= size {
		return d.time
	}
	if d.advanced(most).tokens < size {
		return api.Never
	}
	early, late := d.time, most
	for late-early > 1 {
		middle := early + (late-early)/2
		if d.advanced(middle).tokens < size {
			early = middle
		} else {
			late = middle
		}
	}
	return late
}

// pair is a pacer and what it must be.
type pair struct {
	p *pace.Pace
	d defined
}

func newPair(t *testing.T, burst, at int) *pair {
	t.Helper()
	return &pair{made(t, burst, at), defined{burst: burst, tokens: burst, time: at, rate: bucket.Rate{Den: 1}}}
}

// stopAt ends the test at the first difference, and tells where it is.
func (p *pair) stopAt(t *testing.T, where string, before defined) {
	t.Helper()
	if t.Failed() {
		t.Fatalf("%s of %+v", where, before)
	}
}

func (p *pair) set(t *testing.T, at, cwnd, smooth int) {
	t.Helper()
	before := p.d
	if at < p.d.time {
		set(t, p.p, at, cwnd, smooth, api.ErrBack)
		p.stopAt(t, "Set back", before)
		return
	}
	set(t, p.p, at, cwnd, smooth, api.OK)
	p.d = p.d.advanced(at)
	p.d.rate = rateOf(cwnd, smooth)
	rate(t, p.p, p.d.rate.Num, p.d.rate.Den)
	left(t, p.p, at, p.d.tokens)
	p.stopAt(t, "Set", before)
}

func (p *pair) send(t *testing.T, at, size int) {
	t.Helper()
	before := p.d
	if at < p.d.time {
		send(t, p.p, at, size, api.ErrBack)
		p.stopAt(t, "Send back", before)
		return
	}
	after := p.d.advanced(at)
	if after.tokens < size {
		send(t, p.p, at, size, api.ErrPace)
		p.stopAt(t, "Send early", before)
		return
	}
	send(t, p.p, at, size, api.OK)
	p.d = after
	p.d.tokens -= size
	left(t, p.p, at, p.d.tokens)
	p.stopAt(t, "Send", before)
}

// asks checks the queries, and P14.6: from When on the packet may be sent, and not
// before.
func (p *pair) asks(t *testing.T, at, size int) {
	t.Helper()
	want := 0
	if at >= p.d.time {
		want = p.d.advanced(at).tokens
	}
	left(t, p.p, at, want)
	first := p.d.when(size)
	when(t, p.p, size, first)
	if first == api.Never {
		if p.p.Can(most, size) {
			t.Errorf("Can(%d, %d): got true, although never", most, size)
		}
	} else if !p.p.Can(first, size) || p.p.Can(first-1, size) || !p.p.Can(most, size) {
		t.Errorf("%d may go at %d, but not from then on, or before", size, first)
	}
	if at >= p.d.time && p.p.Can(at, size) != (first != api.Never && at >= first) {
		t.Errorf("Can(%d, %d): got %v, although %d is the first time", at, size, p.p.Can(at, size), first)
	}
	p.stopAt(t, "queries", p.d)
}

// P14.1 to P14.3, P14.6: every small pacer with two rates in turn, and all short
// times between.
func TestSmall(t *testing.T) {
	for _, start := range []int{0, most - 30} {
		for burst := 1; burst <= 12; burst += 1 + burst/3 {
			for first := range 6 {
				for second := range 4 {
					for _, smooth := range []int{0, 1, 2, 5, 7} {
						smallSteps(t, start, burst, first, second, smooth)
					}
				}
			}
		}
	}
}

func smallSteps(t *testing.T, start, burst, first, second, smooth int) {
	t.Helper()
	for cwnd := 1; cwnd <= 3; cwnd++ {
		p := newPair(t, burst, start)
		p.set(t, start, cwnd, 5)
		p.send(t, start, burst)
		for _, at := range []int{start + first, start + first + 1, start + first + 9} {
			for size := 1; size <= burst+1; size++ {
				p.asks(t, at, size)
			}
		}
		p.send(t, start+first, 1)
		p.set(t, start+first+second, 2, smooth)
		p.send(t, start+first+second, 1)
		for size := 1; size <= burst; size++ {
			p.asks(t, start+first+second+2, size)
		}
		p.send(t, start+first+second+3, 2)
		p.set(t, start+first+second+4, cwnd, 5)
		p.asks(t, start+first+second+7, burst)
	}
}

// anyUpTo is from 0 to n: often close to one of these, or of any length in bits.
func anyUpTo(source *rand.Rand, n int) int {
	switch source.Intn(4) {
	case 0:
		return source.Intn(min(n, 9) + 1)
	case 1:
		return n - source.Intn(min(n, 9)+1)
	case 2:
		return source.Intn(n + 1)
	}
	return source.Intn(n+1) >> source.Intn(50)
}

// fitting is a smoothed time in which a pacer fills in about so many nanoseconds.
func fitting(burst, cwnd, length int) int {
	fast := new(big.Int).Mul(big.NewInt(int64(cwnd)), big.NewInt(int64(length)))
	fast.Quo(fast, big.NewInt(int64(burst)))
	if fast.Cmp(big.NewInt(most)) > 0 {
		return most
	}
	return int(fast.Int64())
}

// P14.1 to P14.3, P14.6: long series of all kinds of numbers by the definition.
func TestSeries(t *testing.T) {
	source := rand.New(rand.NewSource(146))
	for range 1500 {
		burst := 1 + anyUpTo(source, mostBurst-1)>>source.Intn(30)
		p := newPair(t, burst, anyUpTo(source, most)>>source.Intn(50))
		for range 40 {
			at := p.d.time + anyUpTo(source, most-p.d.time)>>source.Intn(50)
			if source.Intn(9) == 0 {
				at = max(p.d.time-1-source.Intn(9), 0)
			}
			size := 1 + anyUpTo(source, min(max(burst, 2), mostSize)-1)
			switch source.Intn(5) {
			case 0:
				cwnd := 1 + anyUpTo(source, mostCwnd-1)
				p.set(t, at, cwnd, anyUpTo(source, most))
			case 1:
				cwnd := 1 + anyUpTo(source, mostCwnd-1)
				p.set(t, at, cwnd, fitting(burst, cwnd, 1<<source.Intn(50)))
			case 2:
				p.send(t, at, size)
			case 3:
				p.send(t, p.d.time, min(max(p.d.tokens, 1), mostSize))
			case 4:
				p.asks(t, at, size)
			}
		}
	}
}

// P14.6: who sends at When each time, sends as early as may be.
func TestWhenInTurn(t *testing.T) {
	source := rand.New(rand.NewSource(147))
	for range 300 {
		burst := 1 + anyUpTo(source, mostBurst-1)>>source.Intn(30)
		p := newPair(t, burst, anyUpTo(source, 1000))
		cwnd := 1 + anyUpTo(source, mostCwnd-1)
		p.set(t, p.d.time, cwnd, fitting(burst, cwnd, 1<<source.Intn(45)+source.Intn(99)))
		for range 40 {
			size := 1 + anyUpTo(source, min(burst, mostSize)-1)
			p.asks(t, p.d.time, size)
			at := p.p.When(size)
			if at == api.Never {
				break
			}
			if at > p.d.time {
				p.send(t, at-1, size)
			}
			p.send(t, at, size)
		}
	}
}

// act is something that was done with a pacer: a rate was set, or bytes were sent.
type act struct {
	at, sent int
	rate     bucket.Rate
}

// permits is what a rate permits in so many nanoseconds, rounded up.
func permits(length int, r bucket.Rate) *big.Int {
	parts := new(big.Int).Mul(big.NewInt(int64(length)), big.NewInt(int64(r.Num)))
	parts.Add(parts, big.NewInt(int64(r.Den-1)))
	return parts.Quo(parts, big.NewInt(int64(r.Den)))
}

// holdsFrom checks P14.5 from the first of the acts on to each later one.
func holdsFrom(t *testing.T, burst int, acts []act) {
	t.Helper()
	from, r := acts[0].at, acts[0].rate
	sent, allowed := new(big.Int), big.NewInt(int64(burst))
	for _, a := range acts {
		sent.Add(sent, big.NewInt(int64(a.sent)))
		inAll := new(big.Int).Add(allowed, permits(a.at-from, r))
		if sent.Cmp(inAll) > 0 {
			t.Fatalf("%v were sent from %d to %d, and %v permitted", sent, acts[0].at, a.at, inAll)
		}
		if a.rate != r {
			allowed, from, r = inAll, a.at, a.rate
		}
	}
}

// greedy sends all that there is, or some of it, again and again, at changing rates.
func greedy(t *testing.T, source *rand.Rand, burst int) []act {
	t.Helper()
	p, now := made(t, burst, 0), 0
	acts := []act{{rate: p.Rate()}}
	for range 1 + source.Intn(6) {
		cwnd := 1 + source.Intn(1<<source.Intn(30))
		set(t, p, now, cwnd, fitting(burst, cwnd, 1<<source.Intn(30)+source.Intn(9)), api.OK)
		acts = append(acts, act{at: now, rate: p.Rate()})
		for range source.Intn(6) {
			now += source.Intn(1 << source.Intn(30))
			for p.Left(now) > 0 {
				size := min(p.Left(now), mostSize)
				if source.Intn(3) == 0 {
					size = 1 + source.Intn(size)
				}
				send(t, p, now, size, api.OK)
				acts = append(acts, act{now, size, p.Rate()})
				if source.Intn(9) == 0 {
					break
				}
			}
		}
	}
	return acts
}

// P14.5: what is sent from any time to any later one is the burst and what the rates
// permit, at most.
func TestSentInAll(t *testing.T) {
	source := rand.New(rand.NewSource(145))
	for range 500 {
		burst := 1 + source.Intn(1<<source.Intn(20))
		acts := greedy(t, source, burst)
		for i := range acts {
			holdsFrom(t, burst, acts[i:])
		}
	}
}

// P14.5: the burst and what comes can be sent: the bound is not far away.
func TestSentExactly(t *testing.T) {
	p := paced(t, 1000, 0, 3, 7)
	total := 0
	for at := range 5601 {
		if n := p.Left(at); n > 0 {
			send(t, p, at, n, api.OK)
			total += n
		}
	}
	if total != 1000+3000 {
		t.Errorf("%d were sent, not 4000", total)
	}
}

// atLeast checks that what the slow pacer permits, the fast one permits, too.
func atLeast(t *testing.T, fast, slow *pace.Pace, at, size int) {
	t.Helper()
	if fast.Left(at) < slow.Left(at) {
		t.Fatalf("at %d %d may go at %v, and %d at %v", at, fast.Left(at), fast.Rate(), slow.Left(at), slow.Rate())
	}
	if slow.Can(at, size) && !fast.Can(at, size) {
		t.Fatalf("at %d %d may go at %v, and not at %v", at, size, slow.Rate(), fast.Rate())
	}
	early, late := fast.When(size), slow.When(size)
	if late != api.Never && (early == api.Never || early > late) {
		t.Fatalf("%d may go from %d on at %v, and from %d on at %v", size, early, fast.Rate(), late, slow.Rate())
	}
}

// faster are two windows and two smoothed times, of which the first ones make a
// pacer at least as fast.
func faster(source *rand.Rand, burst int) (cwnds, smooths [2]int) {
	a, b := 1+anyUpTo(source, mostCwnd-1), 1+anyUpTo(source, mostCwnd-1)
	cwnds = [2]int{max(a, b), min(a, b)}
	x := fitting(burst, a, 1<<source.Intn(45))
	y := x
	switch source.Intn(3) {
	case 0:
		y = anyUpTo(source, most)
	case 1:
		cwnds[1] = cwnds[0]
		y = min(x+source.Intn(3), most)
	}
	return cwnds, [2]int{min(x, y), max(x, y)}
}

// P14.7: of two pacers with which the same is sent, the one with the greater window
// and the lesser smoothed time permits at least as much.
func TestFasterPermitsMore(t *testing.T) {
	source := rand.New(rand.NewSource(148))
	for range 2000 {
		burst := 1 + anyUpTo(source, mostBurst-1)>>source.Intn(30)
		now := anyUpTo(source, 1000)
		cwnds, smooths := faster(source, burst)
		fast := paced(t, burst, now, cwnds[0], smooths[0])
		slow := paced(t, burst, now, cwnds[1], smooths[1])
		for range 12 {
			now += anyUpTo(source, most-now) >> source.Intn(54)
			size := min(burst, 1+anyUpTo(source, mostSize-1))
			if n := slow.Left(now); n > 0 && source.Intn(2) == 0 {
				size = min(n, mostSize)
			}
			atLeast(t, fast, slow, now, size)
			if slow.Can(now, size) {
				send(t, slow, now, size, api.OK)
				send(t, fast, now, size, api.OK)
			}
		}
	}
}

// P14.7: also of two that were one at another rate before.
func TestFasterFromThenOn(t *testing.T) {
	source := rand.New(rand.NewSource(149))
	for range 2000 {
		burst := 1 + anyUpTo(source, 1<<20)
		slow := paced(t, burst, 0, 1+source.Intn(1<<20), 1<<30+source.Intn(1<<20))
		send(t, slow, 0, min(burst, mostSize), api.OK)
		now := source.Intn(1 << 20)
		set(t, slow, now, 1+source.Intn(1<<20), 1<<31+source.Intn(1<<20), api.OK)
		fast := slow.Copy()
		cwnds, smooths := faster(source, burst)
		set(t, fast, now, cwnds[0], smooths[0], api.OK)
		set(t, slow, now, cwnds[1], smooths[1], api.OK)
		for range 12 {
			now += anyUpTo(source, most-now) >> source.Intn(54)
			atLeast(t, fast, slow, now, min(burst, 1+anyUpTo(source, mostSize-1)))
		}
	}
}
