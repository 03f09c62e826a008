package ampl_test

import (
	"math/rand"
	"testing"

	"sounder/ampl"
	"sounder/api"
)

// defined is a limit by the chapter's definitions.
type defined struct {
	got, sent int
	valid     bool
}

func (d defined) left() int {
	if d.valid {
		return most
	}
	return 3*d.got - d.sent
}

// pair is a limit and what it must be.
type pair struct {
	l *ampl.Limit
	d defined
}

// check stops at the first difference.
func (p *pair) check(t *testing.T) {
	t.Helper()
	stands(t, p.l, p.d.got, p.d.sent, p.d.left(), p.d.valid)
	if t.Failed() {
		t.Fatalf("of %+v", p.d)
	}
}

func (p *pair) receive(t *testing.T, n int) {
	t.Helper()
	got(t, p.l, n, api.OK)
	p.d.got += n
	p.check(t)
}

func (p *pair) send(t *testing.T, n int) {
	t.Helper()
	if n > p.d.left() {
		send(t, p.l, n, api.ErrAmpl)
	} else {
		send(t, p.l, n, api.OK)
		p.d.sent += n
	}
	p.check(t)
}

func (p *pair) validate(t *testing.T) {
	t.Helper()
	validate(t, p.l, api.OK)
	p.d.valid = true
	p.check(t)
}

// P15.1 to P15.4: all small numbers, got in two steps and sent in two, before and
// after the address is validated.
func TestSmall(t *testing.T) {
	for first := range 5 {
		for second := range 4 {
			for sent := range 17 {
				for more := range 17 {
					p := &pair{l: ampl.New(false)}
					p.receive(t, first)
					p.send(t, sent)
					p.receive(t, second)
					p.send(t, more)
					p.validate(t)
					p.send(t, sent)
					p.receive(t, second)
					p.send(t, mostSize)
				}
			}
		}
	}
}

// anySize is often at an edge, or of any length in bits.
func anySize(source *rand.Rand) int {
	switch source.Intn(4) {
	case 0:
		return source.Intn(4)
	case 1:
		return mostSize - source.Intn(4)
	}
	return source.Intn(mostSize+1) >> source.Intn(16)
}

// sizeNear is close to what is left, if that may be a size.
func sizeNear(source *rand.Rand, left int) int {
	return min(max(left-2+source.Intn(5), 0), mostSize)
}

// P15.1 to P15.4: long series by the definition, and copies in between.
func TestSeries(t *testing.T) {
	source := rand.New(rand.NewSource(151))
	for range 500 {
		p := &pair{l: ampl.New(false)}
		if source.Intn(9) == 0 {
			p = &pair{l: ampl.New(true), d: defined{valid: true}}
		}
		p.check(t)
		for range 200 {
			switch source.Intn(6) {
			case 0, 1:
				p.receive(t, anySize(source))
			case 2, 3:
				p.send(t, anySize(source))
			case 4:
				p.send(t, sizeNear(source, p.d.left()))
			case 5:
				if source.Intn(50) == 0 {
					p.validate(t)
				}
				c := &pair{p.l.Copy(), p.d}
				c.send(t, anySize(source))
				c.receive(t, anySize(source))
				p.check(t)
			}
		}
	}
}

// P15.3: whatever is sent, it is at most three times of what was received; and so
// much can be sent.
func TestThreefold(t *testing.T) {
	source := rand.New(rand.NewSource(153))
	for range 300 {
		l, received, sent := ampl.New(false), 0, 0
		for range 100 {
			if n := anySize(source); source.Intn(3) == 0 && l.Got(n) == api.OK {
				received += n
			}
			if n := anySize(source); l.Sent(n) == api.OK {
				sent += n
			}
			if sent > 3*received {
				t.Fatalf("%d were sent, and %d received", sent, received)
			}
		}
		for l.Left() > 0 && !t.Failed() {
			n := min(l.Left(), mostSize)
			send(t, l, n, api.OK)
			sent += n
		}
		if sent != 3*received {
			t.Fatalf("only %d could be sent, although %d were received", sent, received)
		}
	}
}

// P15.3: with more received bytes, no less may be sent.
func TestMoreReceived(t *testing.T) {
	source := rand.New(rand.NewSource(154))
	for range 300 {
		less, more := ampl.New(false), ampl.New(false)
		for range 40 {
			n := anySize(source)
			got(t, less, n, api.OK)
			got(t, more, min(n+source.Intn(3), mostSize), api.OK)
			if source.Intn(5) == 0 {
				got(t, more, anySize(source), api.OK)
			}
			if n := anySize(source); less.Can(n) {
				send(t, less, n, api.OK)
				send(t, more, n, api.OK)
			}
			if less.Left() > more.Left() {
				t.Fatalf("%d may be sent, and with more received bytes %d", less.Left(), more.Left())
			}
		}
	}
}

// P15.4: once it is validated, any size may be sent, however much was sent before.
func TestAnySize(t *testing.T) {
	l := ampl.New(false)
	got(t, l, 1200, api.OK)
	send(t, l, 3600, api.OK)
	validate(t, l, api.OK)
	total := 3600
	for n := 0; n <= mostSize; n++ {
		if !l.Can(n) || l.Sent(n) != api.OK {
			t.Fatalf("%d may not be sent", n)
		}
		total += n
	}
	stands(t, l, 1200, total, most, true)
}
