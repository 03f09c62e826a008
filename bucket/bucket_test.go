package bucket_test

import (
	"math"
	"testing"

	"sounder/api"
	"sounder/bucket"
)

const (
	most      = api.MaxTime
	mostBurst = 1 << 30
	mostNum   = 1 << 43
)

// r37 is the rate of the chapter's examples.
var r37 = bucket.Rate{Num: 3, Den: 7}

// noTimes are ints up to which nothing is filled.
func noTimes() []int {
	return []int{-1, -2, -256, math.MinInt, math.MinInt + 1, most + 1, most + 2, 1 << 62, math.MaxInt - 1, math.MaxInt}
}

// noRates are rates that are not valid.
func noRates() []bucket.Rate {
	l := []bucket.Rate{{}, {Num: 1}, {Num: mostNum}, {Num: -1}, {Num: mostNum + 1}, {Num: -1, Den: -1}}
	for _, n := range noTimes() {
		l = append(l, bucket.Rate{Num: n, Den: 1}, bucket.Rate{Num: n, Den: most}, bucket.Rate{Num: 0, Den: n}, bucket.Rate{Num: 1, Den: n}, bucket.Rate{Num: mostNum, Den: n}, bucket.Rate{Num: n, Den: n})
	}
	return append(l, bucket.Rate{Num: mostNum + 1, Den: 1}, bucket.Rate{Num: most, Den: most}, bucket.Rate{Num: 1 << 44, Den: 1 << 44})
}

// edgeRates are valid rates at the edges.
func edgeRates() []bucket.Rate {
	var l []bucket.Rate
	for _, num := range []int{0, 1, 2, 3, 1000, mostNum - 1, mostNum} {
		for _, den := range []int{1, 2, 7, 1000, 1 << 32, most - 1, most} {
			l = append(l, bucket.Rate{Num: num, Den: den})
		}
	}
	return l
}

// made is a full bucket.
func made(t *testing.T, burst, at int) *bucket.Bucket {
	t.Helper()
	b, e := bucket.New(burst, at)
	if b == nil || e != api.OK {
		t.Fatalf("New(%d, %d): got %v, error %d", burst, at, b, e)
	}
	stands(t, b, burst, 0, at)
	return b
}

// with is a bucket that has so many tokens.
func with(t *testing.T, burst, tokens, at int) *bucket.Bucket {
	t.Helper()
	b := made(t, burst, at)
	take(t, b, burst-tokens, api.OK)
	stands(t, b, tokens, 0, at)
	return b
}

func stands(t *testing.T, b *bucket.Bucket, tokens, rest, at int) {
	t.Helper()
	if b.Tokens() != tokens || b.Rest() != rest || b.Time() != at {
		t.Errorf("Tokens, Rest, Time: got %d, %d, %d, want %d, %d, %d", b.Tokens(), b.Rest(), b.Time(), tokens, rest, at)
	}
}

func fill(t *testing.T, b *bucket.Bucket, to int, r bucket.Rate, want api.Errno) {
	t.Helper()
	if e := b.Fill(to, r); e != want {
		t.Errorf("Fill(%d, %v) at %d: error %d, want %d", to, r, b.Time(), e, want)
	}
}

func take(t *testing.T, b *bucket.Bucket, n int, want api.Errno) {
	t.Helper()
	if e := b.Take(n); e != want {
		t.Errorf("Take(%d) of %d: error %d, want %d", n, b.Tokens(), e, want)
	}
}

func when(t *testing.T, b *bucket.Bucket, n int, r bucket.Rate, want int) {
	t.Helper()
	if at := b.When(n, r); at != want {
		t.Errorf("When(%d, %v) with %d and %d at %d: got %d, want %d", n, r, b.Tokens(), b.Rest(), b.Time(), at, want)
	}
}

// The chapter's examples.
func TestExamples(t *testing.T) {
	b := made(t, 1000, 0)
	take(t, b, 1000, api.OK)
	fill(t, b, 10, r37, api.OK)
	stands(t, b, 4, 2, 10)
	when(t, b, 5, r37, 12)
	when(t, b, 4, r37, 10)
	fill(t, b, 12, r37, api.OK)
	stands(t, b, 5, 1, 12)
	fill(t, b, 11, r37, api.ErrBack)
	full := b.Copy()
	fill(t, full, 3000, r37, api.OK)
	stands(t, full, 1000, 0, 3000)
	take(t, full, 1001, api.ErrLimit)
	when(t, full, 1001, r37, api.Never)
	when(t, full, 1000, r37, 3000)
}

// The promises' first line: a nil and a zero Bucket, in each method, whatever the
// arguments are.
func TestNoBucket(t *testing.T) {
	for _, b := range []*bucket.Bucket{nil, {}, new(bucket.Bucket)} {
		for range 2 {
			for _, n := range append(noTimes(), 0, 1, 5, most) {
				take(t, b, n, api.ErrNil)
				for _, r := range append(noRates(), edgeRates()...) {
					fill(t, b, n, r, api.ErrNil)
					when(t, b, n, r, api.Never)
				}
			}
			stands(t, b, 0, 0, 0)
			if c := b.Copy(); c != nil {
				t.Errorf("Copy of %v: got %v", b, c)
			}
		}
	}
}

// P13.1: which buckets there are.
func TestNew(t *testing.T) {
	for _, burst := range []int{1, 2, 1000, 1 << 29, mostBurst - 1, mostBurst} {
		for _, at := range []int{0, 1, 2, 1 << 32, most - 1, most} {
			made(t, burst, at)
		}
	}
	wrong := []int{0, mostBurst + 1, mostBurst + 2, 1 << 31, 1 << 32, 1<<32 + 1, most}
	for _, burst := range append(noTimes(), wrong...) {
		for _, at := range append(noTimes(), 0, 5, most) {
			refusesNew(t, burst, at)
		}
	}
	for _, at := range noTimes() {
		refusesNew(t, 1, at)
		refusesNew(t, 1000, at)
		refusesNew(t, mostBurst, at)
	}
}

func refusesNew(t *testing.T, burst, at int) {
	t.Helper()
	if b, e := bucket.New(burst, at); b != nil || e != api.ErrArg {
		t.Errorf("New(%d, %d): got %v, error %d", burst, at, b, e)
	}
}

// P13.1: every rate at the edges fills, and by what the definition says.
func TestFillRates(t *testing.T) {
	for _, c := range []struct {
		r                    bucket.Rate
		from, to             int
		burst, tokens        int
		wantTokens, wantRest int
	}{
		{bucket.Rate{Num: 0, Den: 1}, 0, most, 1000, 0, 0, 0},
		{bucket.Rate{Num: 0, Den: most}, 5, 6, 1000, 3, 3, 0},
		{bucket.Rate{Num: 1, Den: 1}, 5, 6, 1000, 3, 4, 0},
		{bucket.Rate{Num: 1, Den: most}, 0, most - 1, 1000, 0, 0, most - 1},
		{bucket.Rate{Num: 1, Den: most}, 0, most, 1000, 0, 1, 0},
		{bucket.Rate{Num: 2, Den: most}, 0, most - 1, 1000, 0, 1, most - 2},
		{bucket.Rate{Num: mostNum, Den: most}, 0, 1, 1000, 0, 0, mostNum},
		{bucket.Rate{Num: mostNum, Den: most}, 0, 1023, 1000, 0, 0, 1023 << 43},
		{bucket.Rate{Num: mostNum, Den: most}, 0, 1024, 1000, 0, 1, 1},
		{bucket.Rate{Num: mostNum, Den: most}, 0, 1023 << 10, 1024, 0, 1023, 1023},
		{bucket.Rate{Num: mostNum, Den: most}, 0, 1 << 39, mostBurst, 0, 1 << 29, 1 << 29},
		{bucket.Rate{Num: mostNum, Den: 1 << 43}, 0, mostBurst - 1, mostBurst, 0, mostBurst - 1, 0},
		{bucket.Rate{Num: mostNum, Den: 1}, 0, 1, mostBurst, 0, mostBurst, 0},
		{bucket.Rate{Num: mostNum, Den: 1}, 0, most, mostBurst, 0, mostBurst, 0},
		{bucket.Rate{Num: mostNum - 1, Den: 1}, most - 1, most, 1, 0, 1, 0},
		{bucket.Rate{Num: 1, Den: 1}, 0, most, mostBurst, 0, mostBurst, 0},
		{r37, 7, 9, 1000, 999, 999, 6},
		{r37, 7, 10, 1000, 999, 1000, 0},
		{r37, 7, 11, 1000, 998, 999, 5},
	} {
		b := with(t, c.burst, c.tokens, c.from)
		fill(t, b, c.to, c.r, api.OK)
		stands(t, b, c.wantTokens, c.wantRest, c.to)
	}
}

// P13.1: no time and no rate beyond the edges; the argument counts before the state.
func TestFillWrong(t *testing.T) {
	b := with(t, 1000, 10, 50)
	fill(t, b, 52, r37, api.OK)
	for _, to := range noTimes() {
		for _, r := range append(noRates(), append(edgeRates(), r37)...) {
			fill(t, b, to, r, api.ErrArg)
		}
	}
	for _, r := range noRates() {
		for _, to := range []int{0, 51, 52, 53, most} {
			fill(t, b, to, r, api.ErrArg)
		}
	}
	stands(t, b, 10, 6, 52)
}

// P13.1: time does not go back, but it may stand.
func TestFillBack(t *testing.T) {
	b := with(t, 1000, 10, 50)
	fill(t, b, 52, r37, api.OK)
	for _, to := range []int{0, 1, 49, 50, 51} {
		fill(t, b, to, r37, api.ErrBack)
		fill(t, b, to, bucket.Rate{Num: 1, Den: 1}, api.ErrBack)
	}
	for range 3 {
		fill(t, b, 52, r37, api.OK)
		stands(t, b, 10, 6, 52)
	}
	fill(t, b, most, r37, api.OK)
	fill(t, b, most, r37, api.OK)
	fill(t, b, most-1, r37, api.ErrBack)
	stands(t, b, 1000, 0, most)
}

// P13.1: a rest goes with the rate by which it came: also if the other rate is as
// fast, or differs in one number alone, or no time passes.
func TestFillRest(t *testing.T) {
	for _, r := range []bucket.Rate{{Num: 6, Den: 14}, {Num: 3, Den: 8}, {Num: 4, Den: 7}, {Num: 0, Den: 7}, {Num: 7, Den: 3}, {Num: 0, Den: 1}} {
		b := with(t, 1000, 10, 0)
		fill(t, b, 2, r37, api.OK)
		stands(t, b, 10, 6, 2)
		fill(t, b, 2, r, api.OK)
		stands(t, b, 10, 0, 2)
		fill(t, b, 2, r37, api.OK)
		stands(t, b, 10, 0, 2)
	}
	b := with(t, 1000, 10, 0)
	fill(t, b, 2, r37, api.OK)
	fill(t, b, 4, bucket.Rate{Num: 6, Den: 14}, api.OK)
	stands(t, b, 10, 12, 4)
	fill(t, b, 5, bucket.Rate{Num: 6, Den: 14}, api.OK)
	stands(t, b, 11, 4, 5)
}

// P13.1: the first rate of a bucket is any; a taken token takes no rest.
func TestFillCarries(t *testing.T) {
	b := with(t, 1000, 1, 0)
	for i, want := range []struct{ tokens, rest int }{{1, 3}, {1, 6}, {2, 2}, {2, 5}, {3, 1}, {3, 4}, {4, 0}, {4, 3}} {
		fill(t, b, i+1, r37, api.OK)
		stands(t, b, want.tokens, want.rest, i+1)
	}
	take(t, b, 4, api.OK)
	stands(t, b, 0, 3, 8)
	fill(t, b, 9, r37, api.OK)
	fill(t, b, 10, r37, api.OK)
	stands(t, b, 1, 2, 10)
	// Two rests of almost a token each.
	c := with(t, 1000, 0, 0)
	r := bucket.Rate{Num: mostNum, Den: mostNum + 1}
	fill(t, c, 1, r, api.OK)
	stands(t, c, 0, mostNum, 1)
	fill(t, c, 2, r, api.OK)
	stands(t, c, 1, mostNum-1, 2)
}

// P13.1: a full bucket has no rest, however it has become full; what comes then
// is lost.
func TestFillFull(t *testing.T) {
	for _, c := range []struct{ burst, tokens, to int }{{10, 9, 3}, {10, 9, 4}, {10, 8, 5}, {10, 10, 1}, {10, 10, 2}, {1, 1, 100}, {1, 0, 3}, {10, 0, 24}, {10, 0, 2000}} {
		b := with(t, c.burst, c.tokens, 0)
		fill(t, b, c.to, r37, api.OK)
		stands(t, b, c.burst, 0, c.to)
		take(t, b, 1, api.OK)
		fill(t, b, c.to+2, r37, api.OK)
		stands(t, b, c.burst-1, 6, c.to+2)
	}
}

// P13.1: as many as there are may be taken, and no more.
func TestTake(t *testing.T) {
	b := with(t, 1000, 10, 50)
	fill(t, b, 52, r37, api.OK)
	for _, n := range []int{-1, -2, -10, -1000, math.MinInt, math.MinInt + 1} {
		take(t, b, n, api.ErrArg)
	}
	for _, n := range []int{11, 12, 1000, 1001, most, most + 1, math.MaxInt} {
		take(t, b, n, api.ErrLimit)
	}
	stands(t, b, 10, 6, 52)
	take(t, b, 0, api.OK)
	stands(t, b, 10, 6, 52)
	take(t, b, 3, api.OK)
	take(t, b, 8, api.ErrLimit)
	stands(t, b, 7, 6, 52)
	take(t, b, 7, api.OK)
	take(t, b, 0, api.OK)
	take(t, b, 1, api.ErrLimit)
	take(t, b, -1, api.ErrArg)
	stands(t, b, 0, 6, 52)
	c := made(t, mostBurst, 0)
	take(t, c, mostBurst+1, api.ErrLimit)
	take(t, c, mostBurst, api.OK)
	stands(t, c, 0, 0, 0)
}

// P13.2: never, if so many never are in it or nothing may fill it so, even if
// there are enough.
func TestWhenWrong(t *testing.T) {
	b := with(t, 1000, 10, 50)
	for _, n := range []int{-1, -2, -1000, math.MinInt, math.MinInt + 1, 1001, 1002, mostBurst, mostBurst + 1, most, math.MaxInt} {
		for _, r := range append(noRates(), edgeRates()...) {
			when(t, b, n, r, api.Never)
		}
	}
	for _, r := range noRates() {
		for _, n := range []int{0, 1, 10, 11, 1000} {
			when(t, b, n, r, api.Never)
		}
	}
	stands(t, b, 10, 0, 50)
}

// P13.2: now, if there are enough, whatever the rate is.
func TestWhenNow(t *testing.T) {
	for _, at := range []int{0, 50, most} {
		b := with(t, 1000, 10, at)
		for _, r := range edgeRates() {
			for _, n := range []int{0, 1, 9, 10} {
				when(t, b, n, r, at)
			}
		}
	}
}

// P13.2: later, by the rate, from the rest on if that is by the same rate.
func TestWhenLater(t *testing.T) {
	b := with(t, 1000, 10, 50)
	when(t, b, 11, r37, 53)
	when(t, b, 12, r37, 55)
	when(t, b, 13, r37, 57)
	when(t, b, 1000, r37, 50+2310)
	fill(t, b, 52, r37, api.OK)
	when(t, b, 11, r37, 53)
	when(t, b, 12, r37, 55)
	when(t, b, 11, bucket.Rate{Num: 6, Den: 14}, 55)
	when(t, b, 11, bucket.Rate{Num: 3, Den: 8}, 55)
	when(t, b, 11, bucket.Rate{Num: 1, Den: 7}, 59)
	when(t, b, 11, bucket.Rate{Num: 1, Den: 1}, 53)
	when(t, b, 1000, bucket.Rate{Num: mostNum, Den: 1}, 53)
	// None of these has changed the rate.
	stands(t, b, 10, 6, 52)
	fill(t, b, 53, r37, api.OK)
	stands(t, b, 11, 2, 53)
}

// P13.2: the last time is MaxTime; there is none behind it, and none by a rate of 0.
func TestWhenEnd(t *testing.T) {
	for _, c := range []struct {
		burst, at, n int
		r            bucket.Rate
		want         int
	}{
		{1000, 0, 1, bucket.Rate{Num: 0, Den: 1}, api.Never},
		{1000, 0, 1000, bucket.Rate{Num: 0, Den: most}, api.Never},
		{1000, most, 1, bucket.Rate{Num: 0, Den: 7}, api.Never},
		{1000, 0, 1, bucket.Rate{Num: 1, Den: most}, most},
		{1000, 1, 1, bucket.Rate{Num: 1, Den: most}, api.Never},
		{1000, 0, 2, bucket.Rate{Num: 1, Den: most}, api.Never},
		{1000, 0, 2, bucket.Rate{Num: 2, Den: most}, most},
		{1000, 0, 3, bucket.Rate{Num: 2, Den: most}, api.Never},
		{1000, 0, 1, bucket.Rate{Num: 1, Den: most - 1}, most - 1},
		{1000, 1, 1, bucket.Rate{Num: 1, Den: most - 1}, most},
		{1000, 2, 1, bucket.Rate{Num: 1, Den: most - 1}, api.Never},
		{1000, most - 10, 10, bucket.Rate{Num: 1, Den: 1}, most},
		{1000, most - 10, 11, bucket.Rate{Num: 1, Den: 1}, api.Never},
		{1000, most - 1, 1000, bucket.Rate{Num: mostNum, Den: 1}, most},
		{1000, most, 1, bucket.Rate{Num: mostNum, Den: 1}, api.Never},
		{mostBurst, 0, mostBurst, bucket.Rate{Num: mostNum, Den: 1}, 1},
		{mostBurst, 0, mostBurst, bucket.Rate{Num: 1, Den: 1}, mostBurst},
		{mostBurst, 0, mostBurst, bucket.Rate{Num: 1, Den: 1 << 23}, api.Never},
		{mostBurst, 0, mostBurst - 1, bucket.Rate{Num: 1, Den: 1 << 23}, 1<<53 - 1<<23},
		{mostBurst, 1<<23 - 1, mostBurst - 1, bucket.Rate{Num: 1, Den: 1 << 23}, most},
		{mostBurst, 1 << 23, mostBurst - 1, bucket.Rate{Num: 1, Den: 1 << 23}, api.Never},
		{mostBurst, 0, mostBurst, bucket.Rate{Num: 1, Den: most}, api.Never},
		{mostBurst, 0, mostBurst, bucket.Rate{Num: mostBurst, Den: most}, most},
		{mostBurst, 0, mostBurst, bucket.Rate{Num: mostBurst - 1, Den: most}, api.Never},
		{mostBurst, 0, mostBurst, bucket.Rate{Num: mostNum, Den: most}, 1 << 40},
		{mostBurst, 0, 1, bucket.Rate{Num: mostNum, Den: most}, 1024},
	} {
		when(t, with(t, c.burst, 0, c.at), c.n, c.r, c.want)
	}
}

// P13.3: a copy goes on by itself, with the rate of the bucket.
func TestCopy(t *testing.T) {
	b := with(t, 1000, 10, 50)
	fill(t, b, 52, r37, api.OK)
	c := b.Copy()
	if c == b {
		t.Fatal("the copy is the bucket itself")
	}
	stands(t, c, 10, 6, 52)
	when(t, c, 11, r37, 53)
	when(t, c, 1000, r37, b.When(1000, r37))
	when(t, c, 1001, r37, api.Never)
	take(t, c, 4, api.OK)
	fill(t, c, 60, bucket.Rate{Num: 1, Den: 5}, api.OK)
	stands(t, c, 7, 3, 60)
	stands(t, b, 10, 6, 52)
	fill(t, b, 53, r37, api.OK)
	stands(t, b, 11, 2, 53)
	stands(t, c, 7, 3, 60)
	when(t, c, 8, bucket.Rate{Num: 1, Den: 5}, 62)
}

// P13.3: after an error all goes on as without it: also the rate is as it was.
func TestErrorsChangeNothing(t *testing.T) {
	b := with(t, 1000, 10, 50)
	fill(t, b, 52, r37, api.OK)
	for _, wrong := range []func(b *bucket.Bucket) api.Errno{
		func(b *bucket.Bucket) api.Errno { return b.Fill(51, bucket.Rate{Num: 1, Den: 1}) },
		func(b *bucket.Bucket) api.Errno { return b.Fill(51, r37) },
		func(b *bucket.Bucket) api.Errno { return b.Fill(60, bucket.Rate{Num: 3}) },
		func(b *bucket.Bucket) api.Errno { return b.Fill(60, bucket.Rate{Num: -3, Den: 7}) },
		func(b *bucket.Bucket) api.Errno { return b.Fill(-1, bucket.Rate{Num: 1, Den: 1}) },
		func(b *bucket.Bucket) api.Errno { return b.Fill(most+1, r37) },
		func(b *bucket.Bucket) api.Errno { return b.Take(-1) },
		func(b *bucket.Bucket) api.Errno { return b.Take(11) },
	} {
		c := b.Copy()
		if e := wrong(c); e == api.OK {
			t.Error("a wrong call is OK")
		}
		if *c != *b {
			t.Errorf("got %+v, which was %+v", *c, *b)
		}
		stands(t, c, 10, 6, 52)
		fill(t, c, 53, r37, api.OK)
		stands(t, c, 11, 2, 53)
	}
	// Nor has a bucket a rate yet after an error.
	c := with(t, 1000, 0, 0)
	fill(t, c, 5, bucket.Rate{Num: 1}, api.ErrArg)
	when(t, c, 1, r37, 3)
	fill(t, c, 2, r37, api.OK)
	stands(t, c, 0, 6, 2)
}
