package loss_test

import (
	"math/big"
	"math/rand"
	"slices"
	"testing"

	"sounder/api"
	"sounder/loss"
	"sounder/rtt"
)

// exactWait is the wait by the definition, without bounds in between.
func exactWait(r api.Rtt) int {
	if rtt.Check(r) != api.OK {
		return 0
	}
	part := big.NewInt(int64(max(r.Smooth, r.Latest)))
	part.Mul(part, big.NewInt(9))
	part.Quo(part, big.NewInt(8))
	if part.Cmp(big.NewInt(milli)) < 0 {
		return milli
	}
	if part.Cmp(big.NewInt(most)) > 0 {
		return most
	}
	return int(part.Int64())
}

// found is a result of Find.
type found struct {
	lost, rest []api.Packet
	at         int
}

// find is the result where there must be one.
func find(t *testing.T, l []api.Packet, acked, now int, r api.Rtt) found {
	t.Helper()
	lost, rest, at, e := loss.Find(l, acked, now, r)
	if e != api.OK {
		t.Fatalf("Find(%v, %d, %d, %+v): error %d", l, acked, now, r, e)
	}
	return found{lost, rest, at}
}

// defined is the result by the definition, packet by packet.
func defined(l []api.Packet, acked, now, wait int) found {
	f := found{at: -1}
	for _, p := range l {
		acknowledged := p.Number <= acked
		farBehind := acked-p.Number >= 3
		old := now-p.Time >= wait
		if acknowledged && (farBehind || old) {
			f.lost = append(f.lost, p)
			continue
		}
		f.rest = append(f.rest, p)
		if !acknowledged {
			continue
		}
		at := most
		if p.Time <= most-wait {
			at = p.Time + wait
		}
		if f.at == -1 || at < f.at {
			f.at = at
		}
	}
	return f
}

// holds checks Find by the definition, and P9.4.
func holds(t *testing.T, l []api.Packet, acked, now int, r api.Rtt) found {
	t.Helper()
	f, want := find(t, l, acked, now, r), defined(l, acked, now, exactWait(r))
	if !slices.Equal(f.lost, want.lost) || !slices.Equal(f.rest, want.rest) || f.at != want.at {
		t.Errorf("Find(%v, %d, %d, %+v): got %v, want %v", l, acked, now, r, f, want)
	}
	together := append(slices.Clone(f.lost), f.rest...)
	slices.SortFunc(together, func(a, b api.Packet) int { return a.Number - b.Number })
	if !slices.Equal(together, l) {
		t.Errorf("Find(%v, %d, %d, %+v): got %v, which is not the list", l, acked, now, r, f)
	}
	for _, p := range f.lost {
		if p.Number > acked {
			t.Errorf("Find(%v, %d, %d, %+v): lost %v", l, acked, now, r, p)
		}
	}
	return f
}

// everyList tells of each list of packets with some numbers and some times.
func everyList(numbers, times []int, tell func(l []api.Packet)) {
	var grow func(l []api.Packet, left []int)
	grow = func(l []api.Packet, left []int) {
		if len(left) == 0 {
			tell(l)
			return
		}
		grow(l, left[1:])
		for _, time := range times {
			grow(append(slices.Clip(l), packet(left[0], time)), left[1:])
		}
	}
	grow(nil, numbers)
}

// near are the ints around one that are times.
func near(n int) []int {
	var l []int
	for i := n - 2; i <= n+3; i++ {
		if i >= 0 && i <= most {
			l = append(l, i)
		}
	}
	return l
}

// P9.2, P9.4, P9.5, P9.6: every list of a few packets, at both ends of the numbers and times.
func TestEveryList(t *testing.T) {
	for _, first := range []int{0, most - 4} {
		for _, sent := range []int{0, most - milli - 1} {
			numbers := []int{first, first + 1, first + 2, first + 3, first + 4}
			everyList(numbers, []int{sent, sent + 1, sent + 2}, func(l []api.Packet) {
				for acked := first - 1; acked <= min(first+8, most); acked++ {
					for _, now := range near(sent + milli) {
						f := holds(t, l, acked, now, api.Rtt{})
						stay(t, f, l, acked, now, api.Rtt{})
						until(t, f, l, acked, now, api.Rtt{})
					}
				}
			})
		}
	}
}

// stay checks P9.5: what is lost is lost a bit later, and with a bit greater a number.
func stay(t *testing.T, f found, l []api.Packet, acked, now int, r api.Rtt) {
	t.Helper()
	if now < most {
		includes(t, find(t, l, acked, now+1, r).lost, f.lost)
	}
	if acked < most {
		includes(t, find(t, l, acked+1, now, r).lost, f.lost)
	}
}

// includes checks that all packets of some are among others.
func includes(t *testing.T, all, some []api.Packet) {
	t.Helper()
	for _, p := range some {
		if !slices.Contains(all, p) {
			t.Errorf("%v was lost, and is not among %v", p, all)
		}
	}
}

// until checks P9.6: what is not lost is not until the returned time, and then one is.
func until(t *testing.T, f found, l []api.Packet, acked, now int, r api.Rtt) {
	t.Helper()
	if f.at == -1 {
		// Nothing will ever be lost without a greater number.
		same(t, find(t, l, acked, most, r), f)
		return
	}
	if f.at <= now && f.at < most {
		t.Errorf("Find(%v, %d, %d, %+v): got %d, which is over", l, acked, now, r, f.at)
	}
	for _, later := range []int{now + 1, now + (f.at-now)/2, f.at - 1} {
		if later >= now && later < f.at {
			same(t, find(t, l, acked, later, r), f)
		}
	}
	after := find(t, l, acked, f.at, r)
	if f.at < most && len(after.lost) <= len(f.lost) {
		t.Errorf("Find(%v, %d, %d, %+v): nothing more is lost than %v", l, acked, f.at, r, f.lost)
	}
	includes(t, after.lost, f.lost)
}

// same checks that two results are equal.
func same(t *testing.T, got, want found) {
	t.Helper()
	if !slices.Equal(got.lost, want.lost) || !slices.Equal(got.rest, want.rest) || got.at != want.at {
		t.Errorf("got %v, want %v", got, want)
	}
}

// anyTime is a time of some length, or one close to the greatest one.
func anyTime(source *rand.Rand) int {
	if source.Intn(10) == 0 {
		return most - source.Intn(20)
	}
	return source.Intn(1 << source.Intn(54))
}

// anyInt is a time, or what is close to one.
func anyInt(source *rand.Rand) int {
	if source.Intn(15) == 0 {
		return noTimes()[source.Intn(len(noTimes()))]
	}
	return anyTime(source)
}

// anyEstimate is one that is measured, or a new one; some are not valid.
func anyEstimate(source *rand.Rand) api.Rtt {
	if source.Intn(4) == 0 {
		smooth := milli + source.Intn(great-milli+1)
		return api.Rtt{Smooth: smooth, Var: smooth/2 + source.Intn(9)/8, First: -1}
	}
	lowest := anyTime(source)
	return api.Rtt{
		Latest: min(lowest+anyTime(source), most),
		Min:    lowest,
		Smooth: min(lowest+anyTime(source), most),
		Var:    anyInt(source),
		First:  anyTime(source),
	}
}

// anyList is a valid list: numbers close to each other, times of which many are
// about as long ago as a wait is long.
func anyList(source *rand.Rand, now, wait int) []api.Packet {
	var l []api.Packet
	n := min(anyTime(source), most-3*room)
	for range source.Intn(1 << source.Intn(9)) {
		n += 1 + source.Intn(3)*source.Intn(2)
		p := packet(n, anyTime(source))
		if source.Intn(3) > 0 {
			p.Time = min(max(now-wait-2+source.Intn(6), 0), most)
		}
		l = append(l, p)
	}
	return l
}

// P9.1: the wait by the definition, for many estimates.
func TestWaitByDefinition(t *testing.T) {
	source := rand.New(rand.NewSource(91))
	valid := 0
	for range 100000 {
		r := anyEstimate(source)
		waits(t, r, exactWait(r))
		if rtt.Check(r) == api.OK {
			valid++
		}
	}
	if valid < 50000 || valid > 99000 {
		t.Errorf("%d estimates are valid: too many of one kind", valid)
	}
}

// P9.1: the wait by the definition, for all greatest times around the edges.
func TestWaitEdges(t *testing.T) {
	for _, edge := range []int{0, milli / 9 * 8, milli, most / 9, most / 9 * 8, most / 8, most - 100} {
		for greatest := max(edge-100, 0); greatest <= edge+100; greatest++ {
			for _, r := range []api.Rtt{measured(greatest, 0), measured(0, greatest)} {
				waits(t, r, exactWait(r))
			}
		}
	}
}

// P9.2, P9.4, P9.5, P9.6: long lists, for all estimates.
func TestManyLists(t *testing.T) {
	source := rand.New(rand.NewSource(92))
	lost, kept, due := 0, 0, 0
	for range 20000 {
		r, now := anyEstimate(source), anyTime(source)
		l := anyList(source, now, exactWait(r))
		acked := anyTime(source)
		if len(l) > 0 && source.Intn(4) > 0 {
			acked = l[source.Intn(len(l))].Number + source.Intn(3)
		}
		if rtt.Check(r) != api.OK {
			refuses(t, l, acked, now, r, api.ErrArg)
			continue
		}
		f := holds(t, l, acked, now, r)
		stay(t, f, l, acked, now, r)
		until(t, f, l, acked, now, r)
		includes(t, find(t, l, acked+source.Intn(most-acked+1), now+source.Intn(most-now+1), r).lost, f.lost)
		lost, kept = lost+len(f.lost), kept+len(f.rest)
		if f.at != -1 {
			due++
		}
	}
	if lost < 10000 || kept < 10000 || due < 1000 {
		t.Errorf("%d are lost, %d are not, %d times may be: too few of one kind", lost, kept, due)
	}
}

// P9.5: in a run of times and numbers that never go back nothing is found again.
func TestLostForGood(t *testing.T) {
	source := rand.New(rand.NewSource(93))
	for range 300 {
		r := measured(source.Intn(10*milli), source.Intn(10*milli))
		now, acked := source.Intn(1<<40), -1
		l := anyList(source, now+loss.Wait(r), loss.Wait(r))
		var before []api.Packet
		for range 30 {
			lost := find(t, l, acked, now, r).lost
			includes(t, lost, before)
			before = lost
			now += source.Intn(milli)
			if len(l) > 0 && source.Intn(2) > 0 {
				acked = max(acked, l[source.Intn(len(l))].Number)
			}
		}
	}
}
