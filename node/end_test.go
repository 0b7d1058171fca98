package node_test

import (
	"math"
	"testing"

	"rota/api"
)

// P10.5: ErrArg of a slot below 0: neither the round nor the slot ends.
func TestEndOfNoSlot(t *testing.T) {
	c := chapters()
	states := inAllStates(t, c, 1)
	states["off"] = mustNew(t, c, 1)
	for _, n := range states {
		was := look(n)
		for _, slot := range below {
			if by, err := n.End(slot); by != 0 || err != api.ErrArg {
				t.Errorf("end of %d: %d, %v", slot, by, err)
			}
			is(t, n, was)
		}
	}
	n := heard(t, c, 40)
	for _, slot := range below {
		n.End(slot)
	}
	is(t, n, seen{api.Active, 15, 0, 0})
	ends(t, n, 3, 20)
}

// P10.5: just in the last slot of a round of the bus the clock is moved,
// whatever the counter is; what it answers is by how much.
func TestEndOfRound(t *testing.T) {
	for _, c := range several() {
		for slot := range 3 * c.Nodes {
			for _, from := range []int{0, 1 << 31, 1 << 40, math.MaxInt - math.MaxInt%c.Nodes - 9*c.Nodes} {
				from -= from % c.Nodes
				n := joined(t, c, 1, turnOf(c, 0, 0))
				counter := n.Counter()
				hearsNone(t, n, 5, says(t, c, counter, all(c), payload{}), 40)
				by := 0
				if slot%c.Nodes == c.Nodes-1 {
					by = 20
				}
				ends(t, n, from+slot, by)
				is(t, n, seen{api.Active, all(c), counter + 1, by})
			}
		}
	}
	n := heard(t, chapters(), 40)
	ends(t, n, math.MaxInt, 20) // 3 modulo 4
}

// P10.5: behind the round all readings are forgotten; until then they stay.
func TestEndForgets(t *testing.T) {
	c := chapters()
	n := heard(t, c, 40)
	for _, slot := range []int{0, 1, 2, 4, 1000, 2} {
		ends(t, n, slot, 0)
	}
	ends(t, n, 3, 20)
	ends(t, n, 3, 0)
	ends(t, n, 7, 0)
	is(t, n, seen{api.Active, 15, 9, 20})
}

// P10.5: of readings the average without the extremes, cut to the Bound, 70
// here; its own reading is 0.
func TestEndAverages(t *testing.T) {
	c := chapters()
	for _, x := range []struct {
		readings [3]int
		want     int
	}{
		{[3]int{0, 0, 0}, 0},
		{[3]int{-3, 5, 9}, 2}, // of -3 0 5 9
		{[3]int{10, 20, 90}, 15},
		{[3]int{-90, -20, -10}, -15},
		{[3]int{90, 90, 90}, 70}, // of 0 90 90 90: 90
		{[3]int{-90, -90, -71}, -70},
		{[3]int{70, 70, 71}, 70},
	} {
		n := joined(t, c, 3, 0)
		for slot, reading := range x.readings {
			hearsNone(t, n, slot, says(t, c, slot, 15, payload{}), reading)
			if slot < 2 {
				ends(t, n, slot, 0)
			}
		}
		ends(t, n, 3, x.want)
		is(t, n, seen{api.Active, 15, 3, x.want})
	}
}

// P10.5: of the members by its vector alone: the reading of one that belongs no
// more does not count, nor is its own 0 of one that is not Active.
func TestEndOfMembers(t *testing.T) {
	c := chapters()
	n := joined(t, c, 3, 0)
	for slot, reading := range []int{90, 40, 20} {
		hearsNone(t, n, slot, says(t, c, slot, 15, payload{}), reading)
		ends(t, n, slot, 0)
	}
	// Its own turn, and one that is silent: 20 and 40 and its own are left.
	sends(t, n, 3, api.Frame{Owner: 3, State: api.State{Slot: 3, Members: 15}})
	ends(t, n, 4, 0)
	hearsSilence(t, n, 4, 0)
	is(t, n, seen{api.Active, 14, 4, 0})
	ends(t, n, 7, 20)

	// One that follows: of 0, of whom it goes by, and 40: its own, were it to
	// count, would make it 0.
	l := following(t, c, 3, 0, 15)
	ends(t, l, 0, 0)
	hearsNone(t, l, 1, says(t, c, 1, 15, payload{}), 40)
	ends(t, l, 3, 20)
	is(t, l, seen{api.Listen, 15, 2, 20})

	// One that does not belong by its own vector, while it follows.
	m := following(t, c, 3, 0, 7)
	ends(t, m, 0, 0)
	hearsNone(t, m, 1, says(t, c, 1, 7, payload{}), 40)
	ends(t, m, 3, 20)
}

// P10.5: who is frozen has no members: its clock is not moved, but what it
// heard is forgotten.
func TestEndFrozen(t *testing.T) {
	c := chapters()
	n := heard(t, c, 40)
	sendsNone(t, n, 0)
	is(t, n, seen{api.Frozen, 0, -1, 0})
	ends(t, n, 3, 0)
	joins(t, n, 0)
	ends(t, n, 3, 0)
	is(t, n, seen{api.Active, 15, 1, 0})

	m := heard(t, c, 40)
	sendsNone(t, m, 0)
	ends(t, m, 2, 0)
	joins(t, m, 0)
	ends(t, m, 3, 20)
}

// P10.5: what it answers is by how much the clock was to be moved, though it
// comes to an end, as the clock's Round has it.
func TestEndAtTheEnd(t *testing.T) {
	c := chapters()
	for _, x := range []struct{ offset, reading, by, want int }{
		{far, 40, 20, far}, {far - 5, 40, 20, far}, {-far, -40, -20, -far}, {far, -40, -20, far - 20},
	} {
		n := started(t, c, 1, x.offset)
		joins(t, n, 0)
		hearsNone(t, n, 0, says(t, c, 0, 15, payload{}), x.reading)
		ends(t, n, 3, x.by)
		is(t, n, seen{api.Active, 15, 1, x.want})
	}
}

// P10.5: then the member's Next: its counter, if it has one, is one more; the
// round is ended by what it believed ahead of that.
func TestEndOfSlot(t *testing.T) {
	for _, c := range several() {
		states := inAllStates(t, c, 1)
		states["off"] = mustNew(t, c, 1)
		for _, n := range states {
			for slot := range 3 * c.Nodes {
				want := look(n)
				if want.counter >= 0 {
					want.counter++
				}
				ends(t, n, slot, 0)
				is(t, n, want)
			}
		}
		n := joined(t, c, 1, last)
		ends(t, n, 0, 0)
		is(t, n, seen{state: api.Frozen, counter: -1})
		ends(t, n, 1, 0)
		is(t, n, seen{state: api.Frozen, counter: -1})
	}
	c := chapters()
	n := joined(t, c, 0, last) // 3 modulo 4
	hearsNone(t, n, 3, says(t, c, last, 15, payload{}), 40)
	ends(t, n, 3, 20)
	is(t, n, seen{api.Frozen, 0, -1, 20})
}
