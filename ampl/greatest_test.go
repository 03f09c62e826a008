package ampl

import (
	"testing"

	"sounder/api"
)

// The definitions: neither the numbers of bytes nor what is left pass the greatest
// number. So much can't be received in a test, so that these limits start there.
func TestGreatest(t *testing.T) {
	const third = api.MaxTime / 3
	for _, c := range []struct{ got, sent, received, total, left int }{
		{api.MaxTime, 0, 1, api.MaxTime, api.MaxTime},
		{api.MaxTime - 1, 5, 1, api.MaxTime, api.MaxTime - 5},
		{api.MaxTime - 1, 5, api.MaxSize, api.MaxTime, api.MaxTime - 5},
		{third, 0, 0, third, api.MaxTime - api.MaxTime%3},
		{third, 0, 1, third + 1, api.MaxTime},
		{third, 7, 1, third + 1, api.MaxTime - 7},
		{api.MaxTime, api.MaxTime, api.MaxSize, api.MaxTime, 0},
	} {
		l := New(false)
		l.got, l.sent = c.got, c.sent
		if e := l.Got(c.received); e != api.OK || l.got != c.total || l.Left() != c.left {
			t.Errorf("%+v: error %d, got %d, left %d", c, e, l.got, l.Left())
		}
	}
	l := New(true)
	l.sent = api.MaxTime - 1
	for range 3 {
		if e := l.Sent(api.MaxSize); e != api.OK || l.sent != api.MaxTime || l.Left() != api.MaxTime {
			t.Errorf("error %d, sent %d, left %d", e, l.sent, l.Left())
		}
	}
}
