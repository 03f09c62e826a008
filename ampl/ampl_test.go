package ampl_test

import (
	"math"
	"testing"

	"sounder/ampl"
	"sounder/api"
)

const (
	most     = api.MaxTime
	mostSize = api.MaxSize
)

// noSizes are ints that are no number of bytes of a datagram.
func noSizes() []int {
	return []int{
		-1, -2, -1200, -mostSize, -mostSize - 1, -1 << 16, math.MinInt, math.MinInt + 1,
		mostSize + 1, mostSize + 2, 1<<16 + 1200, 1 << 31, 1 << 32, 1<<32 + 1, most, most + 1, math.MaxInt - 1, math.MaxInt,
	}
}

// stand is all that a limit tells.
type stand struct {
	got, sent, left int
	valid           bool
}

func standOf(l *ampl.Limit) stand {
	got, sent := l.Totals()
	return stand{got, sent, l.Left(), l.Valid()}
}

func stands(t *testing.T, l *ampl.Limit, got, sent, left int, valid bool) {
	t.Helper()
	if is, want := standOf(l), (stand{got, sent, left, valid}); is != want {
		t.Errorf("got %+v, want %+v", is, want)
	}
}

func got(t *testing.T, l *ampl.Limit, n int, want api.Errno) {
	t.Helper()
	before := standOf(l)
	if e := l.Got(n); e != want {
		t.Errorf("Got(%d): error %d, want %d", n, e, want)
	}
	unless(t, want, l, before)
}

// send checks Can, too, which must change nothing.
func send(t *testing.T, l *ampl.Limit, n int, want api.Errno) {
	t.Helper()
	before := standOf(l)
	if can := l.Can(n); can != (want == api.OK) {
		t.Errorf("Can(%d): got %v", n, can)
	}
	if after := standOf(l); after != before {
		t.Errorf("Can(%d) made %+v of %+v", n, after, before)
	}
	if e := l.Sent(n); e != want {
		t.Errorf("Sent(%d): error %d, want %d", n, e, want)
	}
	unless(t, want, l, before)
}

// unless checks that an error has changed nothing.
func unless(t *testing.T, e api.Errno, l *ampl.Limit, before stand) {
	t.Helper()
	if after := standOf(l); e != api.OK && after != before {
		t.Errorf("an error %d made %+v of %+v", e, after, before)
	}
}

func validate(t *testing.T, l *ampl.Limit, want api.Errno) {
	t.Helper()
	if e := l.Validate(); e != want {
		t.Errorf("Validate: error %d, want %d", e, want)
	}
}

// The chapter's examples.
func TestExamples(t *testing.T) {
	l := ampl.New(false)
	send(t, l, 1, api.ErrAmpl)
	got(t, l, 1200, api.OK)
	stands(t, l, 1200, 0, 3600, false)
	send(t, l, 3600, api.OK)
	send(t, l, 1, api.ErrAmpl)
	got(t, l, 65536, api.ErrArg)
	validate(t, l, api.OK)
	stands(t, l, 1200, 3600, 9007199254740991, true)
	send(t, l, 65535, api.OK)
	stands(t, l, 1200, 69135, 9007199254740991, true)
}

// The promises' first line: a nil and a zero Limit, in each method, whatever the
// arguments are.
func TestNoLimit(t *testing.T) {
	for _, l := range []*ampl.Limit{nil, {}, new(ampl.Limit)} {
		for range 2 {
			for _, n := range append(noSizes(), 0, 1, 1200, mostSize) {
				got(t, l, n, api.ErrNil)
				send(t, l, n, api.ErrNil)
			}
			validate(t, l, api.ErrNil)
			stands(t, l, 0, 0, 0, false)
			if c := l.Copy(); c != nil {
				t.Errorf("Copy: got %+v", c)
			}
		}
	}
}

// P15.1: a new limit has nothing got and nothing sent, and is validated or not.
func TestNew(t *testing.T) {
	l := ampl.New(false)
	stands(t, l, 0, 0, 0, false)
	send(t, l, 0, api.OK)
	send(t, l, 1, api.ErrAmpl)
	send(t, l, mostSize, api.ErrAmpl)
	l = ampl.New(true)
	stands(t, l, 0, 0, most, true)
	send(t, l, 0, api.OK)
	send(t, l, 1, api.OK)
	send(t, l, mostSize, api.OK)
	stands(t, l, 0, 1+mostSize, most, true)
}

// P15.1: two new limits have nothing in common.
func TestNewTwice(t *testing.T) {
	a, b := ampl.New(false), ampl.New(false)
	got(t, a, 7, api.OK)
	stands(t, b, 0, 0, 0, false)
	validate(t, a, api.OK)
	stands(t, b, 0, 0, 0, false)
	stands(t, ampl.New(false), 0, 0, 0, false)
}

// P15.1: Got at the edges of sizes; what is got is added, and lets three times as
// much be sent.
func TestGot(t *testing.T) {
	l := ampl.New(false)
	got(t, l, 0, api.OK)
	stands(t, l, 0, 0, 0, false)
	got(t, l, 1, api.OK)
	stands(t, l, 1, 0, 3, false)
	got(t, l, mostSize, api.OK)
	stands(t, l, 65536, 0, 196608, false)
	got(t, l, mostSize-1, api.OK)
	got(t, l, 0, api.OK)
	stands(t, l, 131070, 0, 393210, false)
}

// P15.1: Sent at the edges of what is left.
func TestSent(t *testing.T) {
	l := ampl.New(false)
	got(t, l, 2, api.OK)
	send(t, l, 7, api.ErrAmpl)
	send(t, l, 6, api.OK)
	stands(t, l, 2, 6, 0, false)
	send(t, l, 1, api.ErrAmpl)
	send(t, l, 0, api.OK)
	got(t, l, 1, api.OK)
	stands(t, l, 3, 6, 3, false)
	send(t, l, 1, api.OK)
	send(t, l, 3, api.ErrAmpl)
	send(t, l, 2, api.OK)
	stands(t, l, 3, 9, 0, false)
}

// P15.1: a whole datagram that is just left, one byte less than that, and more.
func TestSentMost(t *testing.T) {
	l := ampl.New(false)
	got(t, l, 21845, api.OK)
	stands(t, l, 21845, 0, mostSize, false)
	send(t, l, 1, api.OK)
	send(t, l, mostSize, api.ErrAmpl)
	send(t, l, mostSize-1, api.OK)
	stands(t, l, 21845, mostSize, 0, false)
	got(t, l, 21844, api.OK)
	send(t, l, mostSize, api.ErrAmpl)
	got(t, l, 1, api.OK)
	send(t, l, mostSize, api.OK)
	stands(t, l, 43690, 2*mostSize, 0, false)
}

// P15.1: what is no size is ErrArg, before and after the address is validated, and
// before ErrAmpl; P15.2: and it changes nothing.
func TestNoSizes(t *testing.T) {
	for _, valid := range []bool{false, true} {
		l := ampl.New(valid)
		for _, bytes := range []int{0, 1200, mostSize, mostSize, mostSize} {
			got(t, l, bytes, api.OK)
			for _, n := range noSizes() {
				got(t, l, n, api.ErrArg)
				send(t, l, n, api.ErrArg)
			}
		}
	}
}

// P15.1: Validate lets all be sent, also if more was sent than received since then;
// what was counted stays, and a second one changes nothing.
func TestValidate(t *testing.T) {
	l := ampl.New(false)
	got(t, l, 10, api.OK)
	send(t, l, 29, api.OK)
	for range 2 {
		validate(t, l, api.OK)
		stands(t, l, 10, 29, most, true)
	}
	send(t, l, mostSize, api.OK)
	stands(t, l, 10, 29+mostSize, most, true)
	got(t, l, 5, api.OK)
	validate(t, l, api.OK)
	stands(t, l, 15, 29+mostSize, most, true)
}

// P15.2: a copy and what it was made of go on independently, either one first.
func TestCopy(t *testing.T) {
	for _, of := range []bool{false, true} {
		l := ampl.New(false)
		got(t, l, 100, api.OK)
		send(t, l, 50, api.OK)
		other := l.Copy()
		if of {
			l, other = other, l
		}
		stands(t, other, 100, 50, 250, false)
		got(t, l, 10, api.OK)
		send(t, l, 280, api.OK)
		stands(t, l, 110, 330, 0, false)
		stands(t, other, 100, 50, 250, false)
		validate(t, l, api.OK)
		stands(t, other, 100, 50, 250, false)
		send(t, other, 251, api.ErrAmpl)
		send(t, other, 250, api.OK)
		stands(t, other, 100, 300, 0, false)
		stands(t, l, 110, 330, most, true)
	}
}

// P15.2: the copy of a validated one is validated.
func TestCopyValid(t *testing.T) {
	for _, l := range []*ampl.Limit{ampl.New(true), ampl.New(false)} {
		validate(t, l, api.OK)
		c := l.Copy()
		stands(t, c, 0, 0, most, true)
		send(t, c, 9, api.OK)
		stands(t, c, 0, 9, most, true)
		stands(t, l, 0, 0, most, true)
	}
}
