package hand_test

import (
	"math/rand"
	"testing"

	"sounder/api"
	"sounder/hand"
)

// defined is a handshake by the chapter's definitions: each of its records by itself.
type defined struct {
	server              bool
	keyed, discarded    [api.Spaces]bool
	valid               bool
	confirmed, answered bool
}

func definedNew(server bool) defined {
	d := defined{server: server, valid: !server}
	d.keyed[0] = true
	return d
}

func (d defined) active(space int) bool { return d.keyed[space] && !d.discarded[space] }

func (d defined) stand() stand {
	s := stand{has: d.keyed, valid: d.valid, confirmed: d.confirmed, sure: d.server || d.confirmed || d.answered}
	for space := range api.Spaces {
		s.lives[space] = d.active(space)
	}
	return s
}

// after is what a call returns, and the records after it.
func (d defined) after(c call) (defined, api.Errno) {
	if c.space < 0 || c.space > 2 {
		return d, api.ErrRange
	}
	switch c.name {
	case "Keys":
		if d.discarded[c.space] {
			return d, api.ErrSpace
		}
		d.keyed[c.space] = true
	case "Discard":
		if c.space == 2 {
			return d, api.ErrArg
		}
		if !d.active(c.space) {
			return d, api.ErrSpace
		}
		d.discarded[c.space] = true
	case "Validate":
		d.valid = true
	case "Confirm":
		if !d.active(2) {
			return d, api.ErrSpace
		}
		d.confirmed, d.valid = true, true
	case "Answered":
		if !d.active(c.space) {
			return d, api.ErrSpace
		}
		if c.space > 0 {
			d.answered = true
		}
	}
	return d, api.OK
}

// calls are all calls, for each space and for what is none.
func calls() []call {
	list := []call{validate(), confirm()}
	for _, space := range append(noSpaces(), initial, shake, app) {
		list = append(list, keys(space), discard(space), answered(space))
	}
	return list
}

// checkStep makes a call with a copy, which must do by the definition what h would,
// and leave h as it was.
func checkStep(t *testing.T, h *hand.Hand, d defined, c call) (*hand.Hand, defined) {
	t.Helper()
	then, want := d.after(c)
	next := h.Copy()
	does(t, next, c, want)
	checkStand(t, next, then.stand())
	checkStand(t, h, d.stand())
	if t.Failed() {
		t.Fatalf("%s(%d) of %+v", c.name, c.space, d)
	}
	return next, then
}

// remains checks the properties of a step.
func remains(t *testing.T, before, after stand) {
	t.Helper()
	for space := range api.Spaces {
		if before.has[space] && !after.has[space] {
			t.Errorf("P16.5: space %d has no keys any more", space)
		}
		if before.has[space] && !before.lives[space] && after.lives[space] {
			t.Errorf("P16.5: space %d is not discarded any more", space)
		}
	}
	if before.valid && !after.valid || before.confirmed && !after.confirmed || before.sure && !after.sure {
		t.Errorf("P16.5: %+v became %+v", before, after)
	}
	if after.confirmed && !(after.valid && after.sure && after.lives[app]) {
		t.Errorf("P16.6: %+v", after)
	}
}

// P16.1 to P16.6: each call in each state that calls lead to.
func TestAllStates(t *testing.T) {
	reached := map[defined]*hand.Hand{}
	var open []defined
	reach := func(d defined, h *hand.Hand) {
		if reached[d] == nil {
			reached[d] = h
			open = append(open, d)
		}
	}
	for _, server := range []bool{false, true} {
		d, h := definedNew(server), hand.New(server)
		checkStand(t, h, d.stand())
		reach(d, h)
	}
	for len(open) > 0 && !t.Failed() {
		d := open[len(open)-1]
		open = open[:len(open)-1]
		for _, c := range calls() {
			h, then := checkStep(t, reached[d], d, c)
			remains(t, standOf(reached[d]), standOf(h))
			reach(then, h)
		}
	}
	for d, h := range reached {
		checkStand(t, h, d.stand())
	}
	// Without keys for SpaceApp: SpaceInitial active or discarded, and SpaceHand
	// without keys, or active or discarded, then answered or not: 10. With them: 2, 3
	// and 2 ways, times confirmed or not: 24. The address of a server, if it is not
	// confirmed, is validated or not: 34 for a client, and 20 + 36 for a server.
	if len(reached) != 34+56 {
		t.Errorf("%d states were reached", len(reached))
	}
}

// P16.1 to P16.6: long series of one handshake, as no copy is made in them.
func TestSeries(t *testing.T) {
	source := rand.New(rand.NewSource(161))
	list := calls()
	for i := range 500 {
		server := i%2 == 0
		h, d := hand.New(server), definedNew(server)
		for range 60 {
			c := list[source.Intn(len(list))]
			if source.Intn(2) == 0 {
				c = list[len(list)-1-source.Intn(9)] // one for a space
			}
			before := standOf(h)
			then, want := d.after(c)
			does(t, h, c, want)
			d = then
			checkStand(t, h, d.stand())
			remains(t, before, standOf(h))
			if t.Failed() {
				t.Fatalf("%s(%d) of %+v", c.name, c.space, before)
			}
		}
	}
}
