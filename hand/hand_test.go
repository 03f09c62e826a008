package hand_test

import (
	"math"
	"slices"
	"testing"

	"sounder/api"
	"sounder/hand"
)

const (
	initial = api.SpaceInitial
	shake   = api.SpaceHand
	app     = api.SpaceApp
)

// noSpaces are ints that are no space.
func noSpaces() []int {
	return []int{
		-1, -2, -3, -256, math.MinInt, math.MinInt + 1, math.MinInt32,
		3, 4, 5, 255, 256, 257, 1 << 31, 1 << 32, 1<<32 + 1, 1<<32 + 2, math.MaxInt - 1, math.MaxInt,
	}
}

// stand is all that a handshake tells.
type stand struct {
	lives, has             [api.Spaces]bool
	valid, confirmed, sure bool
}

func standOf(h *hand.Hand) stand {
	s := stand{valid: h.Valid(), confirmed: h.Confirmed(), sure: h.Sure()}
	for i := range api.Spaces {
		s.lives[i], s.has[i] = h.Lives(i), h.Has(i)
	}
	return s
}

// all is the numbers of the spaces for which it is true.
func all(is [api.Spaces]bool) []int {
	var list []int
	for i, yes := range is {
		if yes {
			list = append(list, i)
		}
	}
	return list
}

// checkStand also asks Live, and Lives and Has for what is no space.
func checkStand(t *testing.T, h *hand.Hand, want stand) {
	t.Helper()
	if is := standOf(h); is != want {
		t.Errorf("got %+v, want %+v", is, want)
	}
	if live := h.Live(); !slices.Equal(live, all(want.lives)) {
		t.Errorf("Live: got %v, want %v", live, all(want.lives))
	}
	for _, space := range noSpaces() {
		if h.Lives(space) || h.Has(space) {
			t.Errorf("%d: Lives %v, Has %v", space, h.Lives(space), h.Has(space))
		}
	}
}

// stands checks a handshake by the spaces that are active and those that have keys.
func stands(t *testing.T, h *hand.Hand, live, keyed []int, valid, confirmed, sure bool) {
	t.Helper()
	want := stand{valid: valid, confirmed: confirmed, sure: sure}
	for _, space := range live {
		want.lives[space] = true
	}
	for _, space := range keyed {
		want.has[space] = true
	}
	checkStand(t, h, want)
}

// A call is one that may change a handshake.
type call struct {
	name  string
	space int
	do    func(h *hand.Hand) api.Errno
}

func keys(space int) call {
	return call{"Keys", space, func(h *hand.Hand) api.Errno { return h.Keys(space) }}
}

func discard(space int) call {
	return call{"Discard", space, func(h *hand.Hand) api.Errno { return h.Discard(space) }}
}

func validate() call { return call{"Validate", 0, (*hand.Hand).Validate} }

func confirm() call { return call{"Confirm", 0, (*hand.Hand).Confirm} }

func answered(space int) call {
	return call{"Answered", space, func(h *hand.Hand) api.Errno { return h.Answered(space) }}
}

// does checks the error of a call, and that an error has changed nothing.
func does(t *testing.T, h *hand.Hand, c call, want api.Errno) {
	t.Helper()
	before := standOf(h)
	if e := c.do(h); e != want {
		t.Errorf("%s(%d) of %+v: error %d, want %d", c.name, c.space, before, e, want)
	}
	if want != api.OK {
		checkStand(t, h, before)
	}
}

// made is a handshake after some calls, which must all be OK.
func made(t *testing.T, server bool, calls ...call) *hand.Hand {
	t.Helper()
	h := hand.New(server)
	for _, c := range calls {
		does(t, h, c, api.OK)
	}
	return h
}

// The chapter's examples.
func TestExamples(t *testing.T) {
	for _, server := range []bool{true, false} {
		h := hand.New(server)
		stands(t, h, []int{0}, []int{0}, !server, false, server)
		does(t, h, keys(1), api.OK)
		does(t, h, keys(2), api.OK)
		does(t, h, discard(0), api.OK)
		does(t, h, discard(0), api.ErrSpace)
		does(t, h, keys(0), api.ErrSpace)
		does(t, h, discard(2), api.ErrArg)
		stands(t, h, []int{1, 2}, []int{0, 1, 2}, !server, false, server)
		does(t, h, answered(0), api.ErrSpace)
		stands(t, h, []int{1, 2}, []int{0, 1, 2}, !server, false, server)
		does(t, h, answered(1), api.OK)
		stands(t, h, []int{1, 2}, []int{0, 1, 2}, !server, false, true)
		does(t, h, confirm(), api.OK)
		stands(t, h, []int{1, 2}, []int{0, 1, 2}, true, true, true)
	}
}

// The promises' first line: a nil and a zero Hand, in each method, whatever the
// arguments are.
func TestNoHand(t *testing.T) {
	for _, h := range []*hand.Hand{nil, {}, new(hand.Hand)} {
		for range 2 {
			for _, space := range append(noSpaces(), initial, shake, app) {
				does(t, h, keys(space), api.ErrNil)
				does(t, h, discard(space), api.ErrNil)
				does(t, h, answered(space), api.ErrNil)
			}
			does(t, h, validate(), api.ErrNil)
			does(t, h, confirm(), api.ErrNil)
			checkStand(t, h, stand{})
			if c := h.Copy(); c != nil {
				t.Errorf("Copy: got %+v", c)
			}
		}
	}
}

// P16.1: the initial state, and that two handshakes have nothing in common.
func TestNew(t *testing.T) {
	for _, server := range []bool{true, false} {
		h, other := hand.New(server), hand.New(server)
		stands(t, h, []int{0}, []int{0}, !server, false, server)
		does(t, h, keys(app), api.OK)
		does(t, h, confirm(), api.OK)
		does(t, h, discard(initial), api.OK)
		stands(t, h, []int{2}, []int{0, 2}, true, true, true)
		stands(t, other, []int{0}, []int{0}, !server, false, server)
		stands(t, hand.New(server), []int{0}, []int{0}, !server, false, server)
	}
}

// P16.1, P16.2: what is no space is ErrRange, whatever the state is.
func TestNoSpaces(t *testing.T) {
	for _, h := range []*hand.Hand{
		hand.New(true), hand.New(false),
		made(t, false, keys(shake), keys(app), confirm()),
		made(t, false, keys(shake), discard(shake), discard(initial)),
	} {
		for _, space := range noSpaces() {
			does(t, h, keys(space), api.ErrRange)
			does(t, h, discard(space), api.ErrRange)
			does(t, h, answered(space), api.ErrRange)
		}
	}
}

// P16.1: Keys in any order, and twice; a discarded space gets none.
func TestKeys(t *testing.T) {
	h := hand.New(false)
	does(t, h, keys(initial), api.OK)
	stands(t, h, []int{0}, []int{0}, true, false, false)
	for range 2 {
		does(t, h, keys(app), api.OK)
		stands(t, h, []int{0, 2}, []int{0, 2}, true, false, false)
	}
	does(t, h, keys(shake), api.OK)
	stands(t, h, []int{0, 1, 2}, []int{0, 1, 2}, true, false, false)
	does(t, h, discard(shake), api.OK)
	for range 2 {
		does(t, h, keys(shake), api.ErrSpace)
		stands(t, h, []int{0, 2}, []int{0, 1, 2}, true, false, false)
	}
}

// P16.1: Discard of a space that has no keys, that is active, that is discarded; of
// SpaceApp, with keys and without.
func TestDiscard(t *testing.T) {
	h := hand.New(true)
	does(t, h, discard(shake), api.ErrSpace)
	does(t, h, discard(app), api.ErrArg)
	does(t, h, keys(shake), api.OK)
	does(t, h, discard(shake), api.OK)
	stands(t, h, []int{0}, []int{0, 1}, false, false, true)
	does(t, h, discard(shake), api.ErrSpace)
	does(t, h, discard(initial), api.OK)
	stands(t, h, nil, []int{0, 1}, false, false, true)
	does(t, h, discard(initial), api.ErrSpace)
	does(t, h, keys(app), api.OK)
	does(t, h, discard(app), api.ErrArg)
	stands(t, h, []int{2}, []int{0, 1, 2}, false, false, true)
}

// P16.2: Validate validates the address, and nothing else.
func TestValidate(t *testing.T) {
	h := hand.New(true)
	for range 2 {
		does(t, h, validate(), api.OK)
		stands(t, h, []int{0}, []int{0}, true, false, true)
	}
	h = hand.New(false)
	does(t, h, validate(), api.OK)
	stands(t, h, []int{0}, []int{0}, true, false, false)
}

// P16.2: Confirm needs SpaceApp alone.
func TestConfirm(t *testing.T) {
	for _, server := range []bool{true, false} {
		h := hand.New(server)
		does(t, h, confirm(), api.ErrSpace)
		does(t, h, keys(shake), api.OK)
		does(t, h, confirm(), api.ErrSpace)
		stands(t, h, []int{0, 1}, []int{0, 1}, !server, false, server)
		does(t, h, keys(app), api.OK)
		for range 2 {
			does(t, h, confirm(), api.OK)
			stands(t, h, []int{0, 1, 2}, []int{0, 1, 2}, true, true, true)
		}
		does(t, h, discard(initial), api.OK)
		does(t, h, discard(shake), api.OK)
		stands(t, h, []int{2}, []int{0, 1, 2}, true, true, true)
	}
}

// P16.2: an answer in SpaceHand or SpaceApp makes the peer of a client sure, one in
// SpaceInitial does not; it must be active.
func TestAnswered(t *testing.T) {
	for _, space := range []int{shake, app} {
		h := hand.New(false)
		does(t, h, answered(initial), api.OK)
		stands(t, h, []int{0}, []int{0}, true, false, false)
		does(t, h, answered(space), api.ErrSpace)
		does(t, h, keys(space), api.OK)
		for range 2 {
			does(t, h, answered(space), api.OK)
			stands(t, h, []int{0, space}, []int{0, space}, true, false, true)
		}
		does(t, h, answered(initial), api.OK)
		does(t, h, answered(3-space), api.ErrSpace)
		does(t, h, discard(initial), api.OK)
		does(t, h, answered(initial), api.ErrSpace)
		stands(t, h, []int{space}, []int{0, space}, true, false, true)
	}
}

// P16.2: an answer in a space that is discarded is ErrSpace, and none.
func TestAnsweredDiscarded(t *testing.T) {
	h := made(t, false, keys(shake), discard(shake))
	does(t, h, answered(shake), api.ErrSpace)
	stands(t, h, []int{0}, []int{0, 1}, true, false, false)
}

// P16.2: neither an answer nor Validate confirms; an answer validates no address.
func TestServerAnswered(t *testing.T) {
	h := made(t, true, keys(shake), keys(app), answered(initial), answered(shake), answered(app))
	stands(t, h, []int{0, 1, 2}, []int{0, 1, 2}, false, false, true)
	does(t, h, validate(), api.OK)
	stands(t, h, []int{0, 1, 2}, []int{0, 1, 2}, true, false, true)
}

// P16.3: a copy and what it was made of go on independently, either one first.
func TestCopy(t *testing.T) {
	for _, of := range []bool{false, true} {
		h := made(t, true, keys(shake))
		other := h.Copy()
		if of {
			h, other = other, h
		}
		stands(t, other, []int{0, 1}, []int{0, 1}, false, false, true)
		does(t, h, discard(initial), api.OK)
		does(t, h, validate(), api.OK)
		stands(t, other, []int{0, 1}, []int{0, 1}, false, false, true)
		does(t, h, keys(app), api.OK)
		does(t, h, confirm(), api.OK)
		stands(t, h, []int{1, 2}, []int{0, 1, 2}, true, true, true)
		stands(t, other, []int{0, 1}, []int{0, 1}, false, false, true)
		does(t, other, discard(shake), api.OK)
		does(t, other, confirm(), api.ErrSpace)
		stands(t, other, []int{0}, []int{0, 1}, false, false, true)
		stands(t, h, []int{1, 2}, []int{0, 1, 2}, true, true, true)
	}
}

// P16.3: and so is it for an answer, of which a server tells nothing.
func TestCopyAnswered(t *testing.T) {
	h := made(t, false, keys(shake))
	c := h.Copy()
	does(t, h, answered(shake), api.OK)
	stands(t, c, []int{0, 1}, []int{0, 1}, true, false, false)
	stands(t, h.Copy(), []int{0, 1}, []int{0, 1}, true, false, true)
}

// P16.4: what Live returned is nobody else's.
func TestLiveNew(t *testing.T) {
	h := made(t, true, keys(shake), keys(app))
	live, again := h.Live(), h.Live()
	for i := range live[:cap(live)] {
		live[:cap(live)][i] = -7
	}
	live = append(live[:1], 9)
	if !slices.Equal(again, []int{0, 1, 2}) || live[1] != 9 {
		t.Errorf("got %v beside %v", again, live)
	}
	stands(t, h, []int{0, 1, 2}, []int{0, 1, 2}, false, false, true)
}
