package ecn_test

import (
	"math/big"
	"math/rand"
	"testing"

	"sounder/api"
	"sounder/ecn"
)

// sum is the sum of numbers, without bounds.
func sum(numbers ...int) *big.Int {
	total := new(big.Int)
	for _, n := range numbers {
		total.Add(total, big.NewInt(int64(n)))
	}
	return total
}

// isFailing tells whether a frame fails, by the definition.
func isFailing(c ecn.Count, a api.Ack, newly int) bool {
	if !a.Marked {
		return newly > 0
	}
	for i := range 3 {
		if a.Ecn[i] < c.Seen[i] {
			return true
		}
	}
	if a.Ecn[1] > c.Seen[1] || sum(a.Ecn[0], a.Ecn[2]).Cmp(sum(c.Sent)) > 0 {
		return true
	}
	return sum(a.Ecn[0], a.Ecn[2]).Cmp(sum(c.Seen[0], c.Seen[2], newly)) < 0
}

// defined is the count after a frame, and whether congestion is reported, by the
// definition.
func defined(c ecn.Count, a api.Ack, newly int) (ecn.Count, bool) {
	if c.Failed {
		return c, false
	}
	if isFailing(c, a, newly) {
		return failed(c), false
	}
	if !a.Marked {
		return c, false
	}
	return ecn.Count{Sent: c.Sent, Seen: a.Ecn}, a.Ecn[2] > c.Seen[2]
}

// eachCount calls f with each three counts of which one is in each place.
func eachCount(numbers []int, f func(in [3]int)) {
	for _, ect0 := range numbers {
		for _, ect1 := range numbers {
			for _, ce := range numbers {
				f([3]int{ect0, ect1, ce})
			}
		}
	}
}

// P12.2, P12.3: each frame in each count, by the definition, for few numbers at
// both ends.
func TestByDefinition(t *testing.T) {
	for _, numbers := range [][]int{{0, 1, 2, 3}, {0, 1, most - 1, most}} {
		eachCount(numbers, func(seen [3]int) {
			for _, sent := range numbers {
				c := ecn.Count{Sent: sent, Seen: seen}
				eachCount(numbers, func(in [3]int) {
					for _, newly := range numbers {
						framesByDefinition(t, c, in, newly)
					}
				})
			}
		})
	}
}

// framesByDefinition checks a frame with and without these counts, in a count
// that has failed and in one that has not.
func framesByDefinition(t *testing.T, c ecn.Count, in [3]int, newly int) {
	t.Helper()
	for _, has := range []bool{true, false} {
		a := api.Ack{Marked: has, Ecn: in}
		want, congested := defined(c, a, newly)
		acks(t, c, a, newly, want, congested)
		acks(t, failed(c), a, newly, failed(c), false)
	}
}

// anyFrame is a frame that often, but not always, fits what was seen.
func anyFrame(source *rand.Rand, c ecn.Count) (api.Ack, int) {
	a := api.Ack{Marked: source.Intn(20) > 0, Ecn: c.Seen}
	left := max(c.Sent-c.Seen[0]-c.Seen[2], 0)
	newly := source.Intn(left + 1)
	split := source.Intn(newly + 1)
	a.Ecn[0] += split
	a.Ecn[2] += newly - split
	if source.Intn(10) == 0 {
		i := source.Intn(3)
		a.Ecn[i] = max(a.Ecn[i]+source.Intn(5)-2, 0)
	}
	if !a.Marked && source.Intn(3) > 0 {
		return a, 0
	}
	return a, newly
}

// P12.2, P12.3, P12.5: long series by the definition; what was seen never gets
// less or more than was sent, and nothing ends a failure.
func TestSeries(t *testing.T) {
	source := rand.New(rand.NewSource(125))
	ended := 0
	for range 3000 {
		c := ecn.Count{}
		for range 60 {
			before := c
			if source.Intn(2) == 0 {
				c = marked(t, c)
			} else {
				a, newly := anyFrame(source, c)
				want, congested := defined(c, a, newly)
				c = acks(t, c, a, newly, want, congested)
			}
			follows(t, before, c)
		}
		if c.Failed {
			ended++
		}
	}
	if ended < 500 || ended > 2900 {
		t.Errorf("%d series have failed: too many of one kind", ended)
	}
}

// follows checks what holds from one count to the next one.
func follows(t *testing.T, before, c ecn.Count) {
	t.Helper()
	for i := range 3 {
		if c.Seen[i] < before.Seen[i] {
			t.Fatalf("what was seen decreases: %+v, then %+v", before, c)
		}
	}
	if c.Seen[0]+c.Seen[2] > c.Sent {
		t.Fatalf("more was seen than sent: %+v", c)
	}
	if c.Failed && c.Seen != before.Seen {
		t.Fatalf("a failure changes what was seen: %+v, then %+v", before, c)
	}
	if before.Failed && !c.Failed {
		t.Fatalf("a failure ends: %+v, then %+v", before, c)
	}
}

// peer counts what it receives, and acknowledges all of it in each frame; the
// other fields are what the sender knows of its frames.
type peer struct {
	seen     [3]int
	marked   int
	known    int
	greatest int
}

// receives is the peer with one more packet, which is marked or not, and has CE
// or not if it is.
func (p *peer) receives(isMarked, ce bool) {
	switch {
	case !isMarked:
		return
	case ce:
		p.seen[2]++
	default:
		p.seen[0]++
	}
	p.marked++
}

// answers has a frame arrive, which may not fail, and must report the congestion
// that is new.
func (p *peer) answers(t *testing.T, c ecn.Count) ecn.Count {
	t.Helper()
	a := api.Ack{Marked: p.marked > 0, Ecn: p.seen}
	d := passes(t, c, a, p.marked-p.known, p.seen[2] > p.greatest)
	p.known, p.greatest = p.marked, max(p.greatest, p.seen[2])
	return d
}

// P12.4: each way in which four packets, marked or not, get CE or not, and in
// which their frames are lost or not. (All orders of them are among these: a
// count does not tell packets from each other.)
func TestPeerEachWay(t *testing.T) {
	const packets = 4
	for ways := range 1 << (3 * packets) {
		c := ecn.Count{}
		for i := range packets {
			if ways>>i&1 > 0 {
				c = marked(t, c)
			}
		}
		p := &peer{}
		for i := range packets {
			p.receives(ways>>i&1 > 0, ways>>(packets+i)&1 > 0)
			if ways>>(2*packets+i)&1 > 0 {
				c = p.answers(t, c)
			}
		}
	}
}

// P12.4: long series: packets are under way for any time, or for ever, and so
// any number of frames in a row are lost.
func TestPeerSeries(t *testing.T) {
	source := rand.New(rand.NewSource(124))
	for range 500 {
		c, p := ecn.Count{}, &peer{}
		var underWay []bool
		for range 200 {
			switch source.Intn(4) {
			case 0, 1:
				isMarked := source.Intn(4) > 0
				if isMarked {
					c = marked(t, c)
				}
				underWay = append(underWay, isMarked)
			case 2:
				if len(underWay) == 0 {
					continue
				}
				i := source.Intn(len(underWay))
				if source.Intn(8) > 0 {
					p.receives(underWay[i], source.Intn(5) == 0)
				}
				underWay = append(underWay[:i], underWay[i+1:]...)
			case 3:
				if source.Intn(3) > 0 {
					c = p.answers(t, c)
				}
			}
		}
	}
}

// P12.4: a peer that forgets to count a packet, or counts it as ECT(1), or counts
// one that was not sent, is found.
func TestWrongPeers(t *testing.T) {
	c := ecn.Count{}
	for range 5 {
		c = marked(t, c)
	}
	c = passes(t, c, counts(2, 0, 1), 3, true)
	for _, a := range []api.Ack{counts(3, 0, 1), counts(3, 1, 1), counts(2, 0, 1), counts(5, 0, 1), counts(3, 0, 3), counts(0, 0, 0), {}} {
		fails(t, c, a, 2)
	}
	passes(t, c, counts(4, 0, 1), 2, false)
}
