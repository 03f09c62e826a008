package sent_test

import (
	"math/rand"
	"slices"
	"testing"

	"sounder/api"
	"sounder/sent"
)

// plain is a log by the definition: a list, from which packets are removed.
type plain struct {
	room, last int
	list       []api.Packet
}

func (m *plain) put(p api.Packet) api.Errno {
	if p.Number <= m.last {
		return api.ErrNumber
	}
	if len(m.list) == m.room {
		return api.ErrLimit
	}
	m.list = append(m.list, p)
	m.last = p.Number
	return api.OK
}

func (m *plain) drop(n int) (api.Packet, bool) {
	for i, p := range m.list {
		if p.Number == n {
			m.list = slices.Delete(m.list, i, i+1)
			return p, true
		}
	}
	return api.Packet{}, false
}

func (m *plain) between(lo, hi int) []api.Packet {
	var l []api.Packet
	for _, p := range m.list {
		if lo <= p.Number && p.Number <= hi {
			l = append(l, p)
		}
	}
	return l
}

// matches checks a log against the definition.
func (m *plain) matches(t *testing.T, l *sent.Log) {
	t.Helper()
	stands(t, l, m.last, m.list...)
}

// matchesAround checks each number around those that were put, too.
func (m *plain) matchesAround(t *testing.T, l *sent.Log, from int) {
	t.Helper()
	m.matches(t, l)
	for lo := from - 1; lo <= m.last+1; lo++ {
		if _, is := l.Get(lo); is != (len(m.between(lo, lo)) > 0) {
			t.Errorf("Get(%d) of %v: got %v", lo, m.list, is)
		}
		for hi := lo - 1; hi <= m.last+1; hi++ {
			if got := l.Between(lo, hi); !slices.Equal(got, m.between(lo, hi)) {
				t.Errorf("Between(%d, %d) of %v: got %v", lo, hi, m.list, got)
			}
		}
	}
}

// both makes the same calls to a log and to the definition.
type both struct {
	t *testing.T
	l *sent.Log
	m plain
}

func (b *both) put(p api.Packet) {
	b.t.Helper()
	put(b.t, b.l, p, b.m.put(p))
}

func (b *both) drop(n int) {
	b.t.Helper()
	want, there := b.m.drop(n)
	if p, is := b.l.Drop(n); p != want || is != there {
		b.t.Errorf("Drop(%d): got %v, %v, want %v, %v", n, p, is, want, there)
	}
}

// dropAt drops the packet at a place in the list, if there is one.
func (b *both) dropAt(i int) {
	b.t.Helper()
	if i >= 0 && i < len(b.m.list) {
		b.drop(b.m.list[i].Number)
	}
}

func (b *both) clear() {
	b.l.Clear()
	b.m.list = nil
}

// mixed is a packet whose kind and size follow from its number.
func mixed(n int) api.Packet {
	return api.Packet{Number: n, Time: n / 3, Size: 1 + n%977, Eliciting: n%2 == 0, Flight: n%3 > 0, Ect: n%5 == 0}
}

// P6.1 to P6.6: every short sequence of steps in small rooms.
func TestEveryShortSequence(t *testing.T) {
	const length = 6
	steps := []func(b *both){
		func(b *both) { b.put(mixed(b.m.last + 1)) },
		func(b *both) { b.put(mixed(b.m.last + 3)) },
		func(b *both) { b.dropAt(0) },
		func(b *both) { b.dropAt(1) },
		func(b *both) { b.dropAt(len(b.m.list) - 1) },
		func(b *both) { b.put(mixed(max(b.m.last, 0))) },
		func(b *both) { b.clear() },
	}
	sequences := 1
	for range length {
		sequences *= len(steps)
	}
	for room := 1; room <= 3; room++ {
		for sequence := range sequences {
			b := &both{t, log(t, room), plain{room: room, last: -1}}
			for rest, i := sequence, 0; i < length; rest, i = rest/len(steps), i+1 {
				steps[rest%len(steps)](b)
				b.m.matches(t, b.l)
			}
			if sequence%7 == 0 {
				b.m.matchesAround(t, b.l, 0)
			}
			if t.Failed() {
				t.Fatalf("room %d, sequence %d", room, sequence)
			}
		}
	}
}

// P6.1 to P6.6: long runs of steps in small and large rooms, from different
// numbers on, in the log and now and then in a copy.
func TestRunsOfSteps(t *testing.T) {
	source := rand.New(rand.NewSource(11))
	for _, room := range []int{1, 2, 3, 7, 40, 255, 256} {
		for _, base := range []int{0, 1 << 40, most - 6*room} {
			b := &both{t, log(t, room), plain{room: room, last: -1}}
			b.put(mixed(base))
			for range 12 * room {
				step(source, b)
				b.m.matches(t, b.l)
				if t.Failed() {
					t.Fatalf("room %d, base %d", room, base)
				}
			}
			if room <= 7 {
				b.m.matchesAround(t, b.l, base)
			}
		}
	}
}

// step puts about as often as it drops; old packets are dropped more often.
func step(source *rand.Rand, b *both) {
	b.t.Helper()
	if source.Intn(5) == 0 {
		b.l = b.l.Copy()
	}
	count := len(b.m.list)
	switch kind := source.Intn(200); {
	case kind == 0:
		b.clear()
	case kind < 5:
		b.drop(b.m.last - source.Intn(3*b.m.room))
	case kind < 100 && count > 0:
		b.dropAt(min(source.Intn(count), source.Intn(count)))
	case b.m.last < most:
		b.put(mixed(min(most, b.m.last+1+source.Intn(2)*source.Intn(4))))
	}
}

// P6.5: the totals are those of what was put and not dropped since, whatever is
// dropped, and nothing is dropped twice.
func TestTotalsOfWhatIsThere(t *testing.T) {
	source := rand.New(rand.NewSource(12))
	for _, room := range []int{1, 4, 64, 256} {
		l := log(t, room)
		there := map[int]api.Packet{}
		for n := range 10 * room {
			if l.Put(mixed(n)) == api.OK {
				there[n] = mixed(n)
			}
			other := source.Intn(n + 1)
			want, is := there[other]
			if p, was := l.Drop(other); p != want || was != is {
				t.Fatalf("room %d: Drop(%d): got %v, %v, want %v, %v", room, other, p, was, want, is)
			}
			delete(there, other)
			checkTotals(t, l, there)
		}
	}
}

func checkTotals(t *testing.T, l *sent.Log, there map[int]api.Packet) {
	t.Helper()
	flight, eliciting := 0, 0
	for _, p := range l.All() {
		if there[p.Number] != p {
			t.Fatalf("%v was dropped, or never put", p)
		}
		if p.Flight {
			flight += p.Size
			if p.Eliciting {
				eliciting++
			}
		}
	}
	if l.Len() != len(there) || l.Flight() != flight || l.Eliciting() != eliciting {
		t.Fatalf("got Len %d, Flight %d, Eliciting %d, want %d, %d, %d", l.Len(), l.Flight(), l.Eliciting(), len(there), flight, eliciting)
	}
}

// P6.6: the last number never decreases, and no number is put twice.
func TestNoNumberTwice(t *testing.T) {
	source := rand.New(rand.NewSource(13))
	for _, room := range []int{1, 3, 50} {
		l := log(t, room)
		was := map[int]bool{}
		for range 2000 {
			n, last := source.Intn(l.Last()+4), l.Last()
			e := l.Put(mixed(n))
			if e == api.OK && (was[n] || n <= last || l.Last() != n) || e != api.OK && l.Last() != last {
				t.Fatalf("room %d: Put(%d) after %d: error %d, Last %d", room, n, last, e, l.Last())
			}
			was[n] = was[n] || e == api.OK
			last = l.Last()
			switch oldest, _ := l.Oldest(); source.Intn(6) {
			case 0:
				l.Clear()
			case 1, 2:
				l.Drop(oldest.Number)
			case 3:
				l.Drop(l.Last())
			}
			if l.Last() != last {
				t.Fatalf("room %d: Last went from %d to %d", room, last, l.Last())
			}
		}
	}
}
