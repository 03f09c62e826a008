package bucket_test

import (
	"math/big"
	"math/rand"
	"testing"

	"sounder/api"
	"sounder/bucket"
)

// defined is a bucket by the definition, in arithmetic without bounds.
type defined struct {
	burst, tokens, time int
	rate                bucket.Rate
	rest                int
}

// comes is what comes in so many nanoseconds, and the rest then.
func (d defined) comes(length int, r bucket.Rate) (more *big.Int, rest int) {
	parts := new(big.Int).Mul(big.NewInt(int64(length)), big.NewInt(int64(r.Num)))
	if r == d.rate {
		parts.Add(parts, big.NewInt(int64(d.rest)))
	}
	more, left := new(big.Int).QuoRem(parts, big.NewInt(int64(r.Den)), new(big.Int))
	return more, int(left.Int64())
}

// filled is the bucket after filling it.
func (d defined) filled(to int, r bucket.Rate) defined {
	more, rest := d.comes(to-d.time, r)
	more.Add(more, big.NewInt(int64(d.tokens)))
	f := defined{burst: d.burst, tokens: d.burst, time: to, rate: r}
	if more.Cmp(big.NewInt(int64(d.burst))) < 0 {
		f.tokens, f.rest = int(more.Int64()), rest
	}
	return f
}

// when is the earliest time up to which filling gives so many, found by halving:
// the later it is, the more there are.
func (d defined) when(n int, r bucket.Rate) int {
	if d.tokens >= n {
		return d.time
	}
	if d.filled(most, r).tokens < n {
		return api.Never
	}
	early, late := d.time, most
	for late-early > 1 {
		middle := early + (late-early)/2
		if d.filled(middle, r).tokens < n {
			early = middle
		} else {
			late = middle
		}
	}
	return late
}

// pair is a bucket and what it must be.
type pair struct {
	b *bucket.Bucket
	d defined
}

func newPair(t *testing.T, burst, at int) *pair {
	t.Helper()
	return &pair{made(t, burst, at), defined{burst: burst, tokens: burst, time: at}}
}

func (p *pair) fill(t *testing.T, to int, r bucket.Rate) {
	t.Helper()
	before := p.d
	fill(t, p.b, to, r, api.OK)
	p.d = p.d.filled(to, r)
	stands(t, p.b, p.d.tokens, p.d.rest, p.d.time)
	if t.Failed() {
		t.Fatalf("Fill(%d, %v) of %+v", to, r, before)
	}
}

func (p *pair) take(t *testing.T, n int) {
	t.Helper()
	if n > p.d.tokens {
		take(t, p.b, n, api.ErrLimit)
		return
	}
	take(t, p.b, n, api.OK)
	p.d.tokens -= n
	stands(t, p.b, p.d.tokens, p.d.rest, p.d.time)
}

// when checks When by the definition, and P13.6: up to then it has so many, and
// not before.
func (p *pair) when(t *testing.T, n int, r bucket.Rate) {
	t.Helper()
	at := p.d.when(n, r)
	when(t, p.b, n, r, at)
	last := p.b.Copy()
	if at == api.Never {
		fill(t, last, most, r, api.OK)
		if last.Tokens() >= n {
			t.Fatalf("%+v filled at %v has %d, although never", p.d, r, n)
		}
		return
	}
	fill(t, last, at, r, api.OK)
	if last.Tokens() < n {
		t.Fatalf("%+v filled up to %d at %v has %d, not %d", p.d, at, r, last.Tokens(), n)
	}
	if at > p.d.time {
		before := p.b.Copy()
		fill(t, before, at-1, r, api.OK)
		if before.Tokens() >= n {
			t.Fatalf("%+v filled up to %d at %v has %d already", p.d, at-1, r, before.Tokens())
		}
	}
}

// P13.1 to P13.3, P13.6: every small bucket with every rest, every rate of small
// numbers, and every length.
func TestSmall(t *testing.T) {
	for _, start := range []int{0, most - 40} {
		for burst := 1; burst <= 4; burst++ {
			for tokens := range burst {
				for num := range 5 {
					for den := 1; den <= 6; den++ {
						smallFills(t, start, burst, tokens, bucket.Rate{Num: num, Den: den})
					}
				}
			}
		}
	}
}

func smallFills(t *testing.T, start, burst, tokens int, r bucket.Rate) {
	t.Helper()
	for first := range 6 {
		for second := range 8 {
			p := newPair(t, burst, start)
			p.take(t, burst-tokens)
			p.fill(t, start+first, r)
			for n := range burst + 1 {
				p.when(t, n, r)
				p.when(t, n, bucket.Rate{Num: r.Num, Den: r.Den + 1})
				p.when(t, n, bucket.Rate{Num: r.Num + 1, Den: r.Den})
			}
			p.fill(t, start+first+second, r)
		}
	}
}

// anyOf is one of a list.
func anyOf(source *rand.Rand, list ...int) int { return list[source.Intn(len(list))] }

// anyUpTo is from 0 to n: often close to one of these, or of any length in bits.
func anyUpTo(source *rand.Rand, n int) int {
	switch source.Intn(4) {
	case 0:
		return source.Intn(min(n, 9) + 1)
	case 1:
		return n - source.Intn(min(n, 9)+1)
	case 2:
		return source.Intn(n + 1)
	}
	return source.Intn(n+1) >> source.Intn(50)
}

func anyRate(source *rand.Rand) bucket.Rate {
	return bucket.Rate{Num: anyUpTo(source, mostNum), Den: 1 + anyUpTo(source, most-1)}
}

// fitting is a rate by which a bucket fills in about so many nanoseconds.
func fitting(source *rand.Rand, burst, length int) bucket.Rate {
	scale := 1 + source.Intn(1000)
	return bucket.Rate{Num: min(burst*scale, mostNum), Den: min(max(length, 1)*scale, most)}
}

// P13.1 to P13.3, P13.6: long series of all kinds of numbers by the definition.
func TestSeries(t *testing.T) {
	source := rand.New(rand.NewSource(136))
	for range 1500 {
		p := newPair(t, 1+anyUpTo(source, mostBurst-1), anyUpTo(source, most))
		rates := []bucket.Rate{anyRate(source), anyRate(source), fitting(source, p.d.burst, most-p.d.time), fitting(source, p.d.burst, 1<<source.Intn(40))}
		rates = append(rates, bucket.Rate{Num: rates[0].Num, Den: rates[1].Den})
		r := rates[0]
		for range 30 {
			if source.Intn(4) == 0 {
				r = rates[source.Intn(len(rates))]
			}
			switch source.Intn(3) {
			case 0:
				p.take(t, anyUpTo(source, max(p.d.tokens, 1)))
			case 1:
				p.fill(t, p.d.time+anyUpTo(source, most-p.d.time)>>source.Intn(50), r)
			case 2:
				p.when(t, anyUpTo(source, p.d.burst), r)
			}
		}
	}
}

// P13.6: until each next token in turn: the bucket is emptied, and filled up to
// When again and again, so that rests of all kinds come up.
func TestWhenInTurn(t *testing.T) {
	source := rand.New(rand.NewSource(137))
	for range 300 {
		burst := 1 + anyUpTo(source, mostBurst-1)
		p := newPair(t, burst, anyUpTo(source, 1000))
		r := fitting(source, burst, 1<<source.Intn(45)+source.Intn(99))
		p.take(t, burst)
		for range 40 {
			n := min(burst, 1+anyUpTo(source, burst)>>source.Intn(30))
			p.when(t, n, r)
			at := p.b.When(n, r)
			if at == api.Never {
				break
			}
			p.fill(t, at, r)
			p.take(t, n)
		}
	}
}

// P13.4: filling in steps is filling at once, and no more than the burst is there.
func TestFillInSteps(t *testing.T) {
	source := rand.New(rand.NewSource(134))
	for range 3000 {
		burst := 1 + anyUpTo(source, mostBurst-1)
		b := made(t, burst, anyUpTo(source, most))
		r := anyRate(source)
		if source.Intn(2) == 0 {
			r = fitting(source, burst, most-b.Time())
		}
		take(t, b, anyOf(source, burst, burst-1, source.Intn(burst+1)), api.OK)
		fill(t, b, b.Time()+anyUpTo(source, most-b.Time())>>source.Intn(50), r, api.OK)
		once := b.Copy()
		for range 1 + source.Intn(6) {
			fill(t, b, b.Time()+anyUpTo(source, most-b.Time())>>source.Intn(50), r, api.OK)
			if b.Tokens() > burst || b.Tokens() < 0 || b.Rest() < 0 || b.Rest() >= r.Den {
				t.Fatalf("there are %d and %d of %d at %v", b.Tokens(), b.Rest(), burst, r)
			}
		}
		fill(t, once, b.Time(), r, api.OK)
		if *once != *b {
			t.Fatalf("filled at once: %+v, in steps: %+v", *once, *b)
		}
	}
}

// permits is what P13.5 allows for a length at a rate.
func permits(length int, r bucket.Rate) *big.Int {
	parts := new(big.Int).Mul(big.NewInt(int64(length)), big.NewInt(int64(r.Num)))
	up := parts.Add(parts, big.NewInt(int64(r.Den-1)))
	up.Quo(up, big.NewInt(int64(r.Den)))
	return up.Add(up, big.NewInt(1))
}

// P13.5: who takes all there is, as soon as it is there, gets no more than the
// burst and what the rates permit, from any time on.
func TestTakenInAll(t *testing.T) {
	source := rand.New(rand.NewSource(135))
	for range 1000 {
		burst := 1 + anyUpTo(source, mostBurst-1)>>source.Intn(31)
		b := made(t, burst, anyUpTo(source, 1000))
		if source.Intn(2) == 0 {
			take(t, b, source.Intn(burst+1), api.OK)
		}
		taken, allowed := new(big.Int), big.NewInt(int64(burst))
		for range 1 + source.Intn(8) {
			r := fitting(source, burst, 1<<source.Intn(30)+source.Intn(9))
			from := b.Time()
			for range source.Intn(6) {
				fill(t, b, b.Time()+source.Intn(1<<source.Intn(32)), r, api.OK)
				n := anyOf(source, b.Tokens(), b.Tokens(), source.Intn(b.Tokens()+1))
				take(t, b, n, api.OK)
				taken.Add(taken, big.NewInt(int64(n)))
			}
			allowed.Add(allowed, permits(b.Time()-from, r))
			if taken.Cmp(allowed) > 0 {
				t.Fatalf("%v was taken, and %v permitted", taken, allowed)
			}
		}
	}
}

// P13.5: the burst and what comes can be taken: the bound is not far away.
func TestTakenExactly(t *testing.T) {
	b := made(t, 1000, 0)
	total := 0
	for at := range 7001 {
		fill(t, b, at, r37, api.OK)
		total += b.Tokens()
		take(t, b, b.Tokens(), api.OK)
	}
	if total != 1000+3000 {
		t.Errorf("%d were taken, not 4000", total)
	}
}
