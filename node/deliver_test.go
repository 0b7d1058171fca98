package node_test

import (
	"math"
	"testing"

	"rota/api"
)

// P10.7: each message that is handed to a port is told, in order, whatever the
// port says: full, or not.
func TestDeliveriesOfFullPorts(t *testing.T) {
	c := some()
	n := joined(t, c, 0, 10)
	for i := range byte(12) {
		hears(t, n, int(i), says(t, c, 10, 31, fromTwo(i)), 0, toZero(int(i), i)...)
		waits(t, n, 9, 1)
		waits(t, n, 10, min(8, 1+int(i)))
	}
	runs(t, n, 0, 3, not(get(9), api.ErrLost), fine(get(9), 0), not(get(9), api.ErrEmpty))

	k := joined(t, c, 0, 1)
	for i := range byte(6) {
		runs(t, k, 0, 0, fine(put(0, i, i)))
		f := api.Frame{Owner: 0, State: api.State{Slot: 1, Members: 31}, Payload: with(payload{}, 40, i, i)}
		sends(t, k, 50, f, come(50, 0, 2, 1, i, i))
		waits(t, k, 2, min(2, 1+int(i)))
	}
}

// P10.7: of several links in their order, of one link's ports in theirs; each
// with its own number and data.
func TestDeliveriesInOrder(t *testing.T) {
	c := some()
	p := with(with(payload{}, 0, 1, 2, 3), 40, 4, 5)
	n := joined(t, c, 1, 1)
	hears(t, n, 9, says(t, c, 1, 31, p), 0, come(9, 1, 1, 1, 4, 5), come(9, 1, 7, 2, 1, 2, 3))
	hears(t, n, 9, says(t, c, 1, 31, with(payload{}, 0, 1, 2, 3)), 0, come(9, 1, 7, 2, 1, 2, 3))
	hears(t, n, 9, says(t, c, 1, 31, payload{}), 0)
	waits(t, n, 1, 1)

	// A byte ahead of a message that is not 1 says that there is none.
	p[40] = 2
	hears(t, n, 9, says(t, c, 1, 31, p), 0, come(9, 1, 7, 2, 1, 2, 3))
}

// both is of two nodes that each have a link to ports of its own and of the
// other one, with messages of the same places and sizes.
func both() api.Config {
	c := chapters()
	c.Parts = []api.Part{{Node: 1}, {Node: 0}}
	c.Ports = []api.Port{source(0, 1, 0), source(1, 1, 0), sample(1, 1, 9), sample(0, 1, 9), sample(0, 1, 9), sample(1, 1, 9)}
	c.Links = []api.Link{{Source: 0, Dests: []int{2, 3}}, {Source: 1, Dests: []int{4, 5}}}
	return c
}

// P10.7: the node is the one that has the port, be the sender that one, or
// another; the slot is the bus's.
func TestDeliveriesOnBoth(t *testing.T) {
	c := both()
	for _, slot := range []int{0, 1, 77, 1 << 40, math.MaxInt} {
		x, y := joined(t, c, 0, 0), joined(t, c, 1, 0)
		runs(t, x, 1, 0, fine(put(1, 40)))
		runs(t, y, 0, 0, fine(put(0, 41)))
		b, l, ok := x.Send(slot)
		if !ok {
			t.Fatal("nothing sent")
		}
		isSame(t, l, []api.Delivery{come(slot, 0, 5, 1, 40)})
		hears(t, y, slot, b, 0, come(slot, 1, 4, 1, 40))
		ends(t, x, 0, 0)
		ends(t, y, 0, 0)
		b, l, ok = y.Send(slot)
		if !ok {
			t.Fatal("nothing sent")
		}
		isSame(t, l, []api.Delivery{come(slot, 1, 3, 0, 41)})
		hears(t, x, slot, b, 0, come(slot, 0, 2, 0, 41))
	}
}

// P10.6: the member's state, vector and counter, the clock's offset; the
// kernel's faults and messages that wait; of what is none of this node's, 0.
func TestWhatIsTold(t *testing.T) {
	c := some()
	n := joined(t, c, 0, 10)
	hears(t, n, 10, says(t, c, 10, 31, fromTwo(5)), 0, toZero(10, 5)...)
	runs(t, n, 0, 10, fine(put(0, 1, 2)), fine(put(0, 1, 2)), fine(put(6, 1, 2, 3)), not(raise, api.ErrRaised))
	runs(t, n, 2, 10, not(read(8), api.ErrFault), not(raise, api.ErrRaised), not(raise, api.ErrRaised), not(raise, api.ErrStopped))
	n.Drift(-2)
	is(t, n, seen{api.Active, 31, 10, -2})
	for part, want := range []int{1, 0, 3, 0} {
		if f := n.Faults(part); f != want {
			t.Errorf("partition %d: %d faults", part, f)
		}
	}
	for port, want := range []int{2, 0, 0, 0, 0, 0, 1, 0, 0, 1, 1, 0, 0} {
		waits(t, n, port, want)
	}
	for _, x := range append([]int{4, 13, 64}, wild...) {
		if x < 0 || x > 12 {
			waits(t, n, x, 0)
		}
		if f := n.Faults(x); f != 0 {
			t.Errorf("partition %d: %d faults", x, f)
		}
	}
	is(t, n, seen{api.Active, 31, 10, -2})
}
