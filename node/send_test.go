package node_test

import (
	"testing"

	"rota/api"
	"rota/node"
)

// laid is what a node of some with filled ports sends: of link 1 the first
// message, of link 2 the last one.
func laid(first byte) payload {
	return with(with(payload{}, 40, first, 100), 0, 7, 8, 9)
}

// fills puts messages 1, 2 and 3 into the queue of link 1, and one into the
// port of link 2, and into the one of no link.
func fills(t *testing.T, n *node.Node) {
	t.Helper()
	runs(t, n, 0, 0, fine(put(0, 1, 100)), fine(put(0, 2, 100)), fine(put(0, 3, 100)), fine(put(6, 7, 8, 9)), fine(put(12, 50)))
}

// P10.3: an Active one sends its number, its member's state, and what its links
// take; what goes to its own ports is delivered there, in the slot of the bus.
func TestSend(t *testing.T) {
	c := some()
	n := joined(t, c, 0, 1)
	fills(t, n)
	for i := range byte(2) {
		slot := 500 + int(i)
		f := api.Frame{Owner: 0, State: api.State{Slot: 1, Members: 31}, Payload: laid(1 + i)}
		sends(t, n, slot, f, come(slot, 0, 2, 1, 1+i, 100))
		waits(t, n, 0, 2-int(i))
		waits(t, n, 2, 1+int(i))
		is(t, n, seen{api.Active, 31, 1, 0})
	}
	waits(t, n, 6, 1)
	waits(t, n, 12, 1)
	runs(t, n, 2, 9, fine(get(2), 1, 100), fine(get(2), 2, 100), not(get(2), api.ErrEmpty))
}

// P10.3: who has nothing to say sends a frame without messages, and brings none
// to its own ports.
func TestSendNoMessage(t *testing.T) {
	for _, c := range several() {
		for id := range c.Nodes {
			for _, from := range []int{0, 1000, last - 2*c.Nodes} {
				slot := turnOf(c, id, from)
				n := joined(t, c, id, slot)
				sends(t, n, 0, api.Frame{Owner: id, State: api.State{Slot: slot, Members: all(c)}})
				isNew(t, n, c)
			}
		}
	}
}

// P10.3: the state is the member's: whom it takes to belong, and its counter.
func TestSendState(t *testing.T) {
	c := some()
	n := joined(t, c, 0, 0)
	hearsSilence(t, n, 100, 0)
	ends(t, n, 100, 0)
	sends(t, n, 101, api.Frame{Owner: 0, State: api.State{Slot: 1, Members: 27}})
	for slot := 2; slot < 6; slot++ {
		ends(t, n, 99+slot, 0)
		hearsSilence(t, n, 100+slot, 0)
	}
	is(t, n, seen{api.Active, 1, 5, 0})
	ends(t, n, 105, 0)
	sendsNone(t, n, 106)
	is(t, n, seen{api.Frozen, 0, -1, 0})
}

// P10.3: nothing, if it is off, and nothing is taken.
func TestSendOfOneThatIsOff(t *testing.T) {
	for _, c := range several() {
		for id := range c.Nodes {
			n := mustNew(t, c, id)
			for slot := range 3 * c.Nodes {
				sendsNone(t, n, slot)
				is(t, n, seen{counter: -1})
			}
		}
	}
}

// P10.3: nothing in a slot below 0: nothing is taken, and the member's turn
// does not come.
func TestSendInNoSlot(t *testing.T) {
	c := some()
	for state, n := range inAllStates(t, c, 0) {
		t.Run(state, func(t *testing.T) {
			fills(t, n)
			was := look(n)
			for _, slot := range below {
				sendsNone(t, n, slot)
				is(t, n, was)
			}
			waits(t, n, 0, 3)
			waits(t, n, 2, 0)
		})
	}
	n := joined(t, c, 0, 1)
	fills(t, n)
	sendsNone(t, n, -1)
	sends(t, n, 0, api.Frame{Owner: 0, State: api.State{Slot: 1, Members: 31}, Payload: laid(1)}, come(0, 0, 2, 1, 1, 100))
}

// P10.3: who does not send takes what its links take all the same, and it is
// gone: nothing of it comes to its own ports.
func TestSendTakesAnyway(t *testing.T) {
	c := some()
	for state, n := range inAllStates(t, c, 0) {
		t.Run(state, func(t *testing.T) {
			fills(t, n)
			for i := range 4 {
				sendsNone(t, n, i)
				waits(t, n, 0, max(0, 2-i))
				waits(t, n, 2, 0)
			}
			waits(t, n, 6, 1)
			waits(t, n, 12, 1)
		})
	}
}

// P10.3: the member's turn comes: who follows is active anew when it is calm
// for long enough, and sends what was not taken before.
func TestSendOfOneThatFollows(t *testing.T) {
	c := some()
	n := following(t, c, 0, 0, 31)
	fills(t, n)
	ends(t, n, 0, 0)
	for slot := 1; slot < 11; slot++ {
		if ownerOf(c, slot) == 0 {
			sendsNone(t, n, slot)
		} else {
			hearsNone(t, n, slot, says(t, c, slot, n.Vector(), payload{}), 0)
		}
		ends(t, n, slot, 0)
	}
	// Calm is 0 behind slot 1, in which its bit goes, and 9 behind slot 10: one
	// less than it takes.
	is(t, n, seen{api.Listen, 30, 11, 0})
	sendsNone(t, n, 11)
	for slot := 11; slot < 16; slot++ {
		if slot > 11 {
			hearsNone(t, n, slot, says(t, c, slot, 30, payload{}), 0)
		}
		ends(t, n, slot, 0)
	}
	waits(t, n, 0, 0)
	runs(t, n, 0, 15, fine(put(0, 4, 100)))
	sends(t, n, 16, api.Frame{Owner: 0, State: api.State{Slot: 16, Members: 31}, Payload: laid(4)}, come(16, 0, 2, 1, 4, 100))
	is(t, n, seen{api.Active, 31, 16, 0})
}
