package sent_test

import (
	"math"
	"slices"
	"testing"

	"sounder/api"
	"sounder/sent"
)

const most = api.MaxNumber

// noNumbers are ints that are not numbers.
func noNumbers() []int {
	return []int{-1, -2, -256, math.MinInt, math.MinInt + 1, most + 1, most + 2, 1 << 62, math.MaxInt - 1, math.MaxInt}
}

// noLogs are the objects that are no log.
func noLogs() map[string]*sent.Log {
	return map[string]*sent.Log{"nil": nil, "zero": {}}
}

// packet is one of 100 bytes that is under way and must be acknowledged.
func packet(n int) api.Packet {
	return api.Packet{Number: n, Time: 7, Size: 100, Eliciting: true, Flight: true}
}

// packets are such ones.
func packets(numbers ...int) []api.Packet {
	var l []api.Packet
	for _, n := range numbers {
		l = append(l, packet(n))
	}
	return l
}

// log is one with room for so many packets, to which packets are put in order.
func log(t *testing.T, room int, list ...api.Packet) *sent.Log {
	t.Helper()
	l, e := sent.New(room)
	if l == nil || e != api.OK {
		t.Fatalf("New(%d): got %v, error %d", room, l, e)
	}
	for _, p := range list {
		put(t, l, p, api.OK)
	}
	return l
}

func put(t *testing.T, l *sent.Log, p api.Packet, want api.Errno) {
	t.Helper()
	if e := l.Put(p); e != want {
		t.Errorf("Put(%v) to %v, last %d: error %d, want %d", p, l.All(), l.Last(), e, want)
	}
}

// drop takes a packet out, and checks that it was there.
func drop(t *testing.T, l *sent.Log, want api.Packet) {
	t.Helper()
	if p, is := l.Drop(want.Number); p != want || !is {
		t.Errorf("Drop(%d): got %v, %v, want %v", want.Number, p, is, want)
	}
}

// misses checks that there is no packet with a number.
func misses(t *testing.T, l *sent.Log, n int) {
	t.Helper()
	if p, is := l.Get(n); p != (api.Packet{}) || is {
		t.Errorf("Get(%d): got %v, %v", n, p, is)
	}
	if p, is := l.Drop(n); p != (api.Packet{}) || is {
		t.Errorf("Drop(%d): got %v, %v", n, p, is)
	}
}

// stands checks a log's last number, its packets, and what follows from them.
func stands(t *testing.T, l *sent.Log, last int, want ...api.Packet) {
	t.Helper()
	if got := l.All(); !slices.Equal(got, want) {
		t.Errorf("All: got %v, want %v", got, want)
	}
	flight, eliciting := 0, 0
	for _, p := range want {
		if p.Flight {
			flight += p.Size
		}
		if p.Flight && p.Eliciting {
			eliciting++
		}
		if got, is := l.Get(p.Number); got != p || !is {
			t.Errorf("Get(%d): got %v, %v, want %v", p.Number, got, is, p)
		}
	}
	if l.Last() != last || l.Len() != len(want) || l.Flight() != flight || l.Eliciting() != eliciting {
		t.Errorf("of %v: got Last %d, Len %d, Flight %d, Eliciting %d, want %d, %d, %d, %d", want, l.Last(), l.Len(), l.Flight(), l.Eliciting(), last, len(want), flight, eliciting)
	}
	var first api.Packet
	if len(want) > 0 {
		first = want[0]
	}
	if p, is := l.Oldest(); p != first || is != (len(want) > 0) {
		t.Errorf("Oldest of %v: got %v, %v", want, p, is)
	}
}

// P6.1: which capacities there are.
func TestNew(t *testing.T) {
	for _, room := range []int{1, 2, 3, 8, 100, 255, 256} {
		stands(t, log(t, room), -1)
	}
	for _, room := range []int{0, -1, -2, -256, 257, 258, 512, 1 << 32, 1<<32 + 1, most, math.MinInt, math.MaxInt} {
		if l, e := sent.New(room); l != nil || e != api.ErrArg {
			t.Errorf("New(%d): got %v, error %d", room, l, e)
		}
	}
}

// The promises' first line: a nil and a zero Log, in each method.
func TestNoLog(t *testing.T) {
	for name, l := range noLogs() {
		for range 2 {
			put(t, l, packet(0), api.ErrNil)
			put(t, l, api.Packet{}, api.ErrNil)
			put(t, l, packet(-5), api.ErrNil)
			for _, n := range append(noNumbers(), 0, 1, 5, most) {
				misses(t, l, n)
				if got := l.Between(0, n); len(got) > 0 {
					t.Errorf("%s: Between(0, %d): got %v", name, n, got)
				}
			}
			stands(t, l, -1)
			if l.Copy() != nil {
				t.Errorf("%s: there is a copy", name)
			}
			l.Clear()
		}
	}
}

// The chapter's examples.
func TestExamples(t *testing.T) {
	l := log(t, 2)
	put(t, l, packet(3), api.OK)
	put(t, l, packet(7), api.OK)
	put(t, l, packet(9), api.ErrLimit)
	if l.Flight() != 200 || l.Eliciting() != 2 || l.Last() != 7 {
		t.Errorf("got Flight %d, Eliciting %d, Last %d", l.Flight(), l.Eliciting(), l.Last())
	}
	drop(t, l, packet(3))
	misses(t, l, 3)
	put(t, l, packet(5), api.ErrNumber)
	put(t, l, packet(9), api.OK)
	if p, is := l.Oldest(); p.Number != 7 || !is || l.Len() != 2 {
		t.Errorf("got Oldest %v, %v, Len %d", p, is, l.Len())
	}
	if got := l.Between(8, 20); !slices.Equal(got, packets(9)) {
		t.Errorf("Between(8, 20): got %v", got)
	}
	l.Clear()
	if p, is := l.Get(9); l.Last() != 9 || l.Flight() != 0 || is || p != (api.Packet{}) {
		t.Errorf("after Clear: got Last %d, Flight %d, Get(9) %v, %v", l.Last(), l.Flight(), p, is)
	}
}

// P6.1: the edges of what a packet may be, each in a log of its own.
func TestValidPackets(t *testing.T) {
	for _, p := range []api.Packet{
		{Number: 0, Time: 0, Size: 1},
		{Number: most, Time: api.MaxTime, Size: api.MaxSize},
		{Number: 1, Time: api.MaxTime, Size: 1, Eliciting: true, Flight: true, Ect: true},
		{Number: most - 1, Time: 0, Size: api.MaxSize, Flight: true},
		{Number: 5, Time: 5, Size: 1200, Eliciting: true},
		{Number: 5, Time: 5, Size: 1200, Ect: true},
		{Number: 5, Time: 5, Size: 1200, Flight: true, Ect: true},
	} {
		stands(t, log(t, 1, p), p.Number, p)
	}
}

// wrongPackets are packets that are not valid, by one part each.
func wrongPackets(n int) []api.Packet {
	var l []api.Packet
	for _, wrong := range noNumbers() {
		number, time, size := packet(n), packet(n), packet(n)
		number.Number, time.Time, size.Size = wrong, wrong, wrong
		l = append(l, number, time, size)
	}
	for _, wrong := range []int{0, api.MaxSize + 1, api.MaxSize + 2, 1 << 16 << 16, most} {
		p := packet(n)
		p.Size = wrong
		l = append(l, p)
	}
	return append(l, api.Packet{}, api.Packet{Number: -1, Time: -1, Size: -1})
}

// P6.1, P6.4: a packet that is not valid is refused first, and changes nothing.
func TestWrongPackets(t *testing.T) {
	for _, n := range []int{0, 3, 5, 6, most} {
		for _, list := range [][]api.Packet{nil, packets(5), packets(4, 5)} {
			l := log(t, 2, list...)
			last := l.Last()
			for _, p := range wrongPackets(n) {
				put(t, l, p, api.ErrArg)
				stands(t, l, last, list...)
			}
		}
	}
}

// P6.1, P6.4: a number that is not greater than the last one is refused, in a
// log with room and in a full one, and changes nothing.
func TestNumbersRise(t *testing.T) {
	for _, room := range []int{2, 3} {
		l := log(t, room, packets(10, 20)...)
		for _, n := range []int{0, 1, 9, 10, 11, 19, 20} {
			put(t, l, packet(n), api.ErrNumber)
			stands(t, l, 20, packets(10, 20)...)
		}
	}
	l := log(t, 3, packets(10, 20, 21)...)
	put(t, l, packet(22), api.ErrLimit)
	stands(t, l, 21, packets(10, 20, 21)...)
}

// P6.1: numbers may be skipped, up to the greatest one, after which none is greater.
func TestSkippedNumbers(t *testing.T) {
	l := log(t, 5, packets(0, 1, 100, 1<<40, most)...)
	stands(t, l, most, packets(0, 1, 100, 1<<40, most)...)
	drop(t, l, packet(most))
	put(t, l, packet(most), api.ErrNumber)
	put(t, l, packet(most-1), api.ErrNumber)
	put(t, l, packet(most+1), api.ErrArg)
	stands(t, l, most, packets(0, 1, 100, 1<<40)...)
}

// upTo are the numbers from 0 on, so many.
func upTo(count int) []int {
	var l []int
	for n := range count {
		l = append(l, n)
	}
	return l
}

// P6.1, P6.2: one packet more than the capacity is refused, and any one that is
// dropped, wherever it stands, leaves room for just one.
func TestCapacity(t *testing.T) {
	for _, room := range []int{1, 2, 3, 7, 255, 256} {
		for gone := range room {
			l := log(t, room, packets(upTo(room)...)...)
			put(t, l, packet(room), api.ErrLimit)
			drop(t, l, packet(gone))
			put(t, l, packet(room), api.OK)
			put(t, l, packet(room+1), api.ErrLimit)
			want := packets(upTo(room + 1)...)
			stands(t, l, room, slices.Delete(want, gone, gone+1)...)
		}
	}
}

// P6.1, P6.2: what a number that was refused for want of room can do later.
func TestRefusedNumberComesLater(t *testing.T) {
	l := log(t, 1, packet(4))
	put(t, l, packet(9), api.ErrLimit)
	drop(t, l, packet(4))
	put(t, l, packet(5), api.OK)
	stands(t, l, 5, packet(5))
}

// P6.1: one packet stays, while many others come and go behind it.
func TestOneStays(t *testing.T) {
	for _, room := range []int{2, 3, 8, 256} {
		l := log(t, room, packet(0))
		for n := 1; n <= 3*room+1; n++ {
			put(t, l, packet(n), api.OK)
			stands(t, l, n, packets(0, n)...)
			drop(t, l, packet(n))
			misses(t, l, n)
			stands(t, l, n, packet(0))
		}
	}
}

// P6.1, P6.2: a log that stays full, and loses its oldest, its newest, or one in between.
func TestStaysFull(t *testing.T) {
	for _, room := range []int{1, 2, 3, 8} {
		for place := range room {
			want := packets(upTo(room)...)
			l := log(t, room, want...)
			for n := room; n < 5*room; n++ {
				drop(t, l, want[place])
				want = append(slices.Delete(want, place, place+1), packet(n))
				put(t, l, packet(n), api.OK)
				stands(t, l, n, want...)
				put(t, l, packet(n+1), api.ErrLimit)
			}
		}
	}
}

// P6.2: numbers that no packet has, in every kind of log.
func TestMissing(t *testing.T) {
	for _, list := range [][]api.Packet{nil, packets(5), packets(5, 7, most-1), packets(2, 3, 4, 6)} {
		l := log(t, 4, list...)
		last := l.Last()
		for _, n := range append(noNumbers(), 0, 1, 8, 1000, most) {
			misses(t, l, n)
			stands(t, l, last, list...)
		}
	}
	l := log(t, 3, packets(5, 7)...)
	misses(t, l, 4)
	misses(t, l, 6)
	misses(t, l, 8)
	stands(t, l, 7, packets(5, 7)...)
}

// P6.2, P6.5: packets are dropped in every order, each of them once.
func TestDropInEveryOrder(t *testing.T) {
	orders := [][]int{{}}
	for n := range 5 {
		var longer [][]int
		for _, order := range orders {
			for at := range len(order) + 1 {
				longer = append(longer, slices.Insert(slices.Clone(order), at, n))
			}
		}
		orders = longer
	}
	for _, order := range orders {
		want := packets(upTo(5)...)
		l := log(t, 5, want...)
		for _, n := range order {
			drop(t, l, packet(n))
			misses(t, l, n)
			want = slices.DeleteFunc(want, func(p api.Packet) bool { return p.Number == n })
			stands(t, l, 4, want...)
		}
		put(t, l, packet(5), api.OK)
		stands(t, l, 5, packet(5))
	}
}

// P6.2: Get takes nothing out.
func TestGetTwice(t *testing.T) {
	want := api.Packet{Number: 8, Time: 99, Size: 1300, Flight: true, Ect: true}
	l := log(t, 2, packet(3), want)
	for range 3 {
		if p, is := l.Get(8); p != want || !is {
			t.Errorf("Get(8): got %v, %v", p, is)
		}
	}
	stands(t, l, 8, packet(3), want)
}

// P6.2: Clear takes all out but the last number, and leaves all room.
func TestClear(t *testing.T) {
	for _, room := range []int{1, 2, 5, 256} {
		l := log(t, room)
		l.Clear()
		stands(t, l, -1)
		for turn := range 4 {
			base := turn * (room + 3)
			for n := base; n < base+room; n++ {
				put(t, l, packet(n), api.OK)
			}
			last := base + room - 1
			put(t, l, packet(last+1), api.ErrLimit)
			if turn%2 == 1 {
				drop(t, l, packet(base+room/2))
			}
			l.Clear()
			stands(t, l, last)
			misses(t, l, base)
			misses(t, l, last)
			put(t, l, packet(last), api.ErrNumber)
			l.Clear()
			stands(t, l, last)
		}
	}
}

// kinds are packets of each kind, of sizes that tell them apart in a sum.
func kinds() []api.Packet {
	var l []api.Packet
	for i := range 8 {
		l = append(l, api.Packet{Number: 2 * i, Time: 1000 - i, Size: 1 << i, Eliciting: i&1 == 1, Flight: i&2 == 2, Ect: i&4 == 4})
	}
	return l
}

// P6.3: which packets count for Flight and for Eliciting, as they come and go.
func TestTotals(t *testing.T) {
	l := log(t, 8)
	for i, c := range [][2]int{{0, 0}, {0, 0}, {4, 0}, {12, 1}, {12, 1}, {12, 1}, {76, 1}, {204, 2}} {
		put(t, l, kinds()[i], api.OK)
		if l.Len() != i+1 || l.Flight() != c[0] || l.Eliciting() != c[1] {
			t.Errorf("with %d packets: got Len %d, Flight %d, Eliciting %d, want %d, %d", i+1, l.Len(), l.Flight(), l.Eliciting(), c[0], c[1])
		}
	}
	for i, c := range [][2]int{{204, 2}, {204, 2}, {200, 2}, {192, 1}, {192, 1}, {192, 1}, {128, 1}, {0, 0}} {
		drop(t, l, kinds()[i])
		if l.Len() != 7-i || l.Flight() != c[0] || l.Eliciting() != c[1] {
			t.Errorf("with %d packets: got Len %d, Flight %d, Eliciting %d, want %d, %d", 7-i, l.Len(), l.Flight(), l.Eliciting(), c[0], c[1])
		}
	}
}

// P6.3: the greatest totals that there can be.
func TestGreatestTotals(t *testing.T) {
	l := log(t, api.MaxRoom)
	for n := range api.MaxRoom {
		put(t, l, api.Packet{Number: n, Size: api.MaxSize, Eliciting: true, Flight: true}, api.OK)
	}
	if l.Len() != 256 || l.Flight() != 256*65535 || l.Eliciting() != 256 {
		t.Errorf("got Len %d, Flight %d, Eliciting %d", l.Len(), l.Flight(), l.Eliciting())
	}
	l.Clear()
	stands(t, l, 255)
}

// P6.3: Between, at the packets' numbers, next to them, at dropped ones, beyond
// all numbers, and with its ends in the wrong order.
func TestBetween(t *testing.T) {
	l := log(t, 6, packets(0, 10, 20, 30, 40, most)...)
	drop(t, l, packet(20))
	for _, c := range []struct {
		lo, hi int
		want   []int
	}{
		{0, most, []int{0, 10, 30, 40, most}},
		{math.MinInt, math.MaxInt, []int{0, 10, 30, 40, most}},
		{-1, most + 1, []int{0, 10, 30, 40, most}},
		{0, 0, []int{0}}, {-7, 0, []int{0}}, {-7, -1, nil}, {math.MinInt, -1, nil}, {math.MinInt, math.MinInt, nil},
		{1, 9, nil}, {1, 10, []int{10}}, {10, 10, []int{10}}, {10, 29, []int{10}}, {9, 30, []int{10, 30}}, {11, 30, []int{30}},
		{20, 20, nil}, {11, 29, nil}, {20, 30, []int{30}}, {10, 20, []int{10}},
		{31, most - 1, []int{40}}, {41, most - 1, nil}, {41, most, []int{most}}, {most, most, []int{most}}, {most, math.MaxInt, []int{most}},
		{most + 1, math.MaxInt, nil}, {math.MaxInt, math.MaxInt, nil},
		{30, 10, nil}, {10, 9, nil}, {most, 0, nil}, {math.MaxInt, math.MinInt, nil}, {1, 0, nil},
	} {
		if got := l.Between(c.lo, c.hi); !slices.Equal(got, packets(c.want...)) {
			t.Errorf("Between(%d, %d): got %v, want %v", c.lo, c.hi, got, c.want)
		}
	}
	for _, empty := range []*sent.Log{log(t, 1), log(t, 256)} {
		if got := empty.Between(0, most); len(got) > 0 {
			t.Errorf("Between of no packets: got %v", got)
		}
	}
}

// changes are what can happen to a log with packets 10, 20, 30 and room for five.
func changes(t *testing.T) map[string]func(l *sent.Log) {
	return map[string]func(l *sent.Log){
		"one more":   func(l *sent.Log) { put(t, l, packet(31), api.OK) },
		"full":       func(l *sent.Log) { put(t, l, packet(33), api.OK); put(t, l, packet(35), api.OK) },
		"no oldest":  func(l *sent.Log) { drop(t, l, packet(10)) },
		"no middle":  func(l *sent.Log) { drop(t, l, packet(20)) },
		"no newest":  func(l *sent.Log) { drop(t, l, packet(30)) },
		"other ones": func(l *sent.Log) { l.Clear(); put(t, l, packet(50), api.OK) },
		"emptied":    func(l *sent.Log) { l.Clear() },
	}
}

// P6.4: what happens to a log does not happen to its copy, nor the other way round.
func TestCopy(t *testing.T) {
	for name, change := range changes(t) {
		before := packets(10, 20, 30)
		l := log(t, 5, before...)
		c := l.Copy()
		stands(t, c, 30, before...)
		change(c)
		stands(t, l, 30, before...)
		changed, last := c.All(), c.Last()
		again := l.Copy()
		change(l)
		stands(t, again, 30, before...)
		stands(t, c, last, changed...)
		stands(t, l, last, changed...)
		if t.Failed() {
			t.Fatalf("after the change %q", name)
		}
	}
}

// P6.4: a copy has the capacity and the last number, too, and what was dropped
// is in neither.
func TestCopyKeepsAll(t *testing.T) {
	for _, room := range []int{1, 2, 256} {
		l := log(t, room, packets(upTo(room)...)...)
		c := l.Copy()
		put(t, c, packet(room), api.ErrLimit)
		drop(t, l, packet(room/2))
		c = l.Copy()
		misses(t, c, room/2)
		put(t, c, packet(room-1), api.ErrNumber)
		put(t, c, packet(room), api.OK)
		put(t, c, packet(room+1), api.ErrLimit)
		c.Clear()
		put(t, c.Copy(), packet(room), api.ErrNumber)
		if l.Len() != room-1 || l.Last() != room-1 {
			t.Errorf("room %d: got Len %d, Last %d", room, l.Len(), l.Last())
		}
	}
}

// P6.4: the lists that were returned are the caller's.
func TestListsAreNew(t *testing.T) {
	want := packets(0, 1, 2, 5, 8)
	lists := map[string]func(l *sent.Log) []api.Packet{
		"All":     func(l *sent.Log) []api.Packet { return l.All() },
		"Between": func(l *sent.Log) []api.Packet { return l.Between(0, 8) },
	}
	for name, list := range lists {
		l := log(t, 8, want...)
		given, other := list(l), list(l)
		for i := range given[:cap(given)] {
			given[:cap(given)][i] = packet(77)
		}
		stands(t, l, 8, want...)
		if !slices.Equal(other, want) {
			t.Errorf("%s: another result became %v", name, other)
		}
		put(t, l, packet(9), api.OK)
		drop(t, l, packet(1))
		l.Clear()
		put(t, l, packet(10), api.OK)
		if !slices.Equal(other, want) {
			t.Errorf("%s: an earlier result became %v", name, other)
		}
	}
}
