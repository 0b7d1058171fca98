package node_test

import (
	"math"
	"testing"

	"rota/api"
	"rota/frame"
)

// fromTwo is what node 2 of some sends, with a message of link 3.
func fromTwo(message byte) payload { return with(payload{}, 62, message) }

// toZero is what comes of that to node 0.
func toZero(slot int, message byte) []api.Delivery {
	return []api.Delivery{come(slot, 0, 10, 3, message), come(slot, 0, 9, 3, message)}
}

// P10.4: an Active one takes what agrees: what the owner's links have for its
// ports is delivered, in the slot of the bus.
func TestHear(t *testing.T) {
	c := some()
	n := joined(t, c, 0, 10)
	hears(t, n, 700, says(t, c, 10, 31, fromTwo(5)), 0, toZero(700, 5)...)
	is(t, n, seen{api.Active, 31, 10, 0})
	waits(t, n, 9, 1)
	waits(t, n, 10, 1)
	runs(t, n, 0, 3, fine(get(9), 5))
	runs(t, n, 2, 3, fine(get(10), 5), not(get(10), api.ErrEmpty))
}

// P10.4: what goes to other nodes' ports, or to none, is not delivered here.
func TestHearOfOthers(t *testing.T) {
	c := some()
	p := payload{}
	for i := range p {
		p[i] = 1
	}
	want := map[int]map[int][]int{ // by the owner, and who hears it
		0: {1: {1, 7}},
		1: {0: {4}, 2: {5}},
		2: {0: {10, 9}, 1: {11}},
		3: {},
		4: {},
	}
	for slot, owner := range c.Owners {
		for id := range c.Nodes {
			if id == owner {
				continue
			}
			n := joined(t, c, id, slot)
			var ports []int
			for _, d := range n.Hear(slot, says(t, c, slot, 31, p), false, 0) {
				ports = append(ports, d.Port)
			}
			isRow(t, ports, want[owner][id])
		}
	}
}

func isRow(t *testing.T, got, want []int) {
	t.Helper()
	if len(got) != len(want) {
		t.Errorf("%v, not %v", got, want)
		return
	}
	for i := range got {
		if got[i] != want[i] {
			t.Errorf("%v, not %v", got, want)
		}
	}
}

// P10.4: what is not accepted brings nothing, to an Active one: silence, other
// bytes, an owner or a state that it does not believe, a bit that was turned.
func TestHearWhatIsNotAccepted(t *testing.T) {
	c := some()
	b := says(t, c, 10, 31, fromTwo(5))
	for _, heard := range [][]byte{
		nil,
		{},
		b[:74],
		append(b[:75:75], 0),
		says(t, c, 15, 31, fromTwo(5)),
		says(t, c, 10, 30, fromTwo(5)),
		sent(t, api.Frame{Owner: 4, State: api.State{Slot: 10, Members: 31}, Payload: fromTwo(5)}),
		frame.Corrupt(b, 592, 1),
		frame.Corrupt(b, 0, 1<<31),
	} {
		n := joined(t, c, 0, 10)
		hearsNone(t, n, 700, heard, 0)
		is(t, n, seen{api.Active, 27, 10, 0})
		ends(t, n, 4, 0)
		isNew(t, n, c)
	}
}

// P10.4: silence is silence, whatever bytes come with it.
func TestHearSilence(t *testing.T) {
	c := some()
	for _, b := range [][]byte{nil, {}, says(t, c, 10, 31, fromTwo(5))} {
		n := joined(t, c, 0, 10)
		isSame(t, n.Hear(700, b, true, 50), nil)
		is(t, n, seen{api.Active, 27, 10, 0})
		isNew(t, n, c)
		l := following(t, c, 0, 10, 31)
		isSame(t, l.Hear(700, b, true, 50), nil)
		is(t, l, seen{api.Listen, 27, 10, 0})
	}
}

// P10.4: nothing, if it is off, or the slot is below 0: it hears nothing then,
// neither bytes nor silence, nor does its clock.
func TestHearNothing(t *testing.T) {
	c := some()
	b := says(t, c, 10, 31, fromTwo(5))
	off := mustNew(t, c, 0)
	for _, slot := range append([]int{0, 10, 99}, below...) {
		hearsNone(t, off, slot, b, 0)
		hearsNone(t, off, slot, b, 50)
		hearsSilence(t, off, slot, 0)
		is(t, off, seen{counter: -1})
	}
	ends(t, off, 4, 0)
	isNew(t, off, c)

	states := inAllStates(t, c, 0)
	states["hearing"] = joined(t, c, 0, 10)
	for _, n := range states {
		was := look(n)
		for _, slot := range below {
			hearsNone(t, n, slot, b, 50)
			hearsSilence(t, n, slot, 0)
			is(t, n, was)
		}
		isNew(t, n, c)
	}
	n := states["hearing"]
	ends(t, n, 4, 0)
	is(t, n, seen{api.Active, 31, 11, 0})
}

// P10.4: a Frozen one hears nothing.
func TestHearFrozen(t *testing.T) {
	c := some()
	n := frozen(t, c, 0)
	for slot := range 20 {
		hearsNone(t, n, slot, says(t, c, slot, 31, fromTwo(5)), 50)
		hearsSilence(t, n, slot, 0)
		is(t, n, seen{state: api.Frozen, counter: -1})
	}
	isNew(t, n, c)
}

// P10.4: one that has a counter, and whose reading does not fit, hears silence;
// the Margin, 90 here, fits.
func TestHearUntimely(t *testing.T) {
	c := some()
	b := says(t, c, 10, 31, fromTwo(5))
	for _, reading := range []int{0, 1, -1, 89, -89, 90, -90} {
		n := joined(t, c, 0, 10)
		hears(t, n, 10, b, reading, toZero(10, 5)...)
		is(t, n, seen{api.Active, 31, 10, 0})

		l := following(t, c, 0, 10, 31)
		hearsNone(t, l, 10, b, reading)
		is(t, l, seen{api.Listen, 31, 10, 0})
	}
	for _, reading := range []int{91, -91, 1000, 1 << 24, far, -far, 1 << 41, math.MaxInt, math.MinInt, 1 << 32, 1<<32 + 5} {
		n := joined(t, c, 0, 10)
		hearsNone(t, n, 10, b, reading)
		is(t, n, seen{api.Active, 27, 10, 0})
		isNew(t, n, c)
		ends(t, n, 4, 0)

		// Bytes that come too early or too late are not such as do not agree: who
		// follows goes on.
		l := following(t, c, 0, 10, 31)
		hearsNone(t, l, 10, b, reading)
		is(t, l, seen{api.Listen, 27, 10, 0})
		m := following(t, c, 0, 10, 31)
		hearsNone(t, m, 10, nil, reading)
		is(t, m, seen{api.Listen, 27, 10, 0})
		hearsNone(t, m, 10, nil, 0)
		is(t, m, seen{api.Listen, 0, -1, 0})
	}
}

// P10.4: so it is told in the counts: two rounds of frames that do not fit are
// silence, of which just the first counts against each.
func TestHearUntimelyCounts(t *testing.T) {
	c := chapters()
	n := joined(t, c, 1, 1)
	sends(t, n, 1, api.Frame{Owner: 1, State: api.State{Slot: 1, Members: 15}})
	vectors := []uint16{0b1011, 0b0011, 0b0010}
	for i, vector := range vectors {
		ends(t, n, 1+i, 0)
		hearsNone(t, n, 2+i, says(t, c, 2+i, n.Vector(), payload{}), 91)
		is(t, n, seen{api.Active, vector, 2 + i, 0})
	}
	ends(t, n, 4, 0)
	sendsNone(t, n, 5)
	is(t, n, seen{api.Frozen, 0, -1, 0})
}

// P10.4: who has no counter does not ask whether the reading fits: who is
// accepted is followed, and the clock goes by that one's.
func TestHearListening(t *testing.T) {
	c := some()
	b := says(t, c, 10, 31, fromTwo(5))
	for _, offset := range []int{0, 5, -5, 1000, far - 1000, 1000 - far} {
		for _, reading := range []int{0, 1, -1, 90, 91, -91, 1000, -1000} {
			n := started(t, c, 0, offset)
			hearsNone(t, n, 700, b, reading)
			is(t, n, seen{api.Listen, 31, 10, offset + reading})
			isNew(t, n, c)
		}
	}
}

// P10.4: if the clock does not take what it comes to, it stays; the owner is
// followed all the same.
func TestHearListeningTooFar(t *testing.T) {
	c := some()
	b := says(t, c, 10, 31, payload{})
	for _, x := range []struct{ offset, reading, want int }{
		{far, 0, far},
		{far, 1, far},
		{far - 1, 1, far},
		{far - 1, 2, far - 1},
		{-far, -1, -far},
		{1 - far, -1, -far},
		{far, -2 * far, -far},
		{far, -2*far - 1, far},
		{0, far, far},
		{0, far + 1, 0},
		{far, math.MaxInt, far},
		{1, math.MaxInt, 1},
		{7, math.MinInt, 7},
		{-far, math.MinInt, -far},
		{-1, math.MinInt, -1},
		{far, math.MinInt, far},
	} {
		n := started(t, c, 0, x.offset)
		hearsNone(t, n, 10, b, x.reading)
		is(t, n, seen{api.Listen, 31, 10, x.want})
		joins(t, n, 0)
		ends(t, n, 4, 0)
	}
}

// P10.4: what is not accepted does not move the clock of one that has no
// counter, nor does silence; and the frame is believed by its own word alone.
func TestHearListeningToNobody(t *testing.T) {
	c := some()
	b := says(t, c, 10, 31, payload{})
	for _, heard := range [][]byte{
		nil,
		b[:74],
		frame.Corrupt(b, 77, 1),
		sent(t, api.Frame{Owner: 4, State: api.State{Slot: 10, Members: 31}}),
		says(t, c, 10, 27, payload{}),
		says(t, c, 10, 63, payload{}),
		says(t, c, 11, 31, payload{}),
	} {
		n := started(t, c, 0, 5)
		hearsNone(t, n, 10, heard, 20)
		is(t, n, seen{api.Listen, 0, -1, 5})
		isSame(t, n.Hear(10, heard, true, 20), nil)
		is(t, n, seen{api.Listen, 0, -1, 5})
		joins(t, n, 0)
		ends(t, n, 4, 0)
	}
}

// P10.4: one that follows does not move its clock within a round, and nothing
// is delivered to it.
func TestHearFollowing(t *testing.T) {
	c := some()
	n := following(t, c, 0, 10, 30)
	for i := range 9 {
		hearsNone(t, n, 10, says(t, c, 10, 30, fromTwo(byte(i))), i)
		is(t, n, seen{api.Listen, 30, 10, 0})
	}
	isNew(t, n, c)
}

// P10.4: what was heard of an owner is its reading; of the first one that is
// followed, 0. It is seen at the round's end.
func TestHearReadings(t *testing.T) {
	c := chapters()
	for _, x := range []struct{ one, other, want int }{
		{40, 60, 20}, {0, 60, 30}, {-90, 90, 45}, {7, 7, 3}, {-40, -61, -31}, {0, -1, -1}, {30, 0, 0},
	} {
		// Of 0, of the first one's clock, by which it goes, and the other's
		// reading; its own counts nothing, as it is not Active.
		n := started(t, c, 3, 100)
		hearsNone(t, n, 0, says(t, c, 0, 15, payload{}), x.one)
		is(t, n, seen{api.Listen, 15, 0, 100 + x.one})
		ends(t, n, 0, 0)
		hearsNone(t, n, 1, says(t, c, 1, 15, payload{}), x.other)
		ends(t, n, 1, 0)
		by := x.other >> 1
		ends(t, n, 3, by)
		is(t, n, seen{api.Listen, 15, 3, 100 + x.one + by})

		// Of one that is Active: 0, its own, and both readings.
		m := joined(t, c, 3, 0)
		hearsNone(t, m, 0, says(t, c, 0, 15, payload{}), x.one)
		ends(t, m, 0, 0)
		hearsNone(t, m, 1, says(t, c, 1, 15, payload{}), x.other)
		ends(t, m, 1, 0)
		ends(t, m, 3, middle(0, x.one, x.other))
	}
}

// middle is the average of three.
func middle(a, b, c int) int { return a + b + c - min(a, b, c) - max(a, b, c) }

// P10.4: a reading of what is not accepted, or does not fit, is not heard; an
// elder one stays.
func TestHearNoReading(t *testing.T) {
	c := chapters()
	b := says(t, c, 0, 15, payload{})
	n := joined(t, c, 1, 0)
	hearsNone(t, n, 0, b, 40)
	hearsSilence(t, n, 0, 60)
	hearsNone(t, n, 0, frame.Corrupt(b, 3, 1), 62)
	hearsNone(t, n, 0, b, 91)
	is(t, n, seen{api.Active, 14, 0, 0})
	hearsNone(t, n, 0, says(t, c, 0, 15, payload{}), 44)
	is(t, n, seen{api.Active, 15, 0, 0})
	hearsNone(t, n, 0, b[:3], 66)
	hearsNone(t, n, 0, b, 44)
	ends(t, n, 3, 22)
}

// P10.4: one that is Active, and takes another's slot for its own, freezes;
// nothing is delivered, and no reading heard.
func TestHearInOwnTurn(t *testing.T) {
	c := some()
	n := joined(t, c, 0, 11)
	hearsNone(t, n, 10, says(t, c, 10, 31, fromTwo(5)), 20)
	is(t, n, seen{api.Frozen, 0, -1, 0})
	isNew(t, n, c)
	joins(t, n, 0)
	ends(t, n, 4, 0)
}

// P10.4: the clock's Drift, cut to 3 here, in whatever state it is.
func TestDrift(t *testing.T) {
	states := inAllStates(t, some(), 0)
	states["off"] = mustNew(t, some(), 0)
	for _, n := range states {
		was := look(n)
		for _, x := range []struct{ by, sum int }{{1, 1}, {2, 3}, {0, 3}, {9, 6}, {-1, 5}, {-4, 2}, {math.MaxInt, 5}, {math.MinInt, 2}, {-2, 0}} {
			if err := n.Drift(x.by); err != api.OK {
				t.Errorf("%v", err)
			}
			is(t, n, seen{was.state, was.vector, was.counter, x.sum})
		}
	}
	n := started(t, some(), 0, far)
	if n.Drift(1); n.Offset() != far {
		t.Errorf("%d", n.Offset())
	}
}

// P10.4: the clock's Read: of misreadings up to 6 here, in whatever state it
// is. It changes nothing.
func TestReading(t *testing.T) {
	states := inAllStates(t, some(), 0)
	states["off"] = mustNew(t, some(), 0)
	for state, n := range states {
		was := look(n)
		for _, x := range []struct{ other, misread, want int }{
			{0, 0, 0}, {5, 0, 5}, {-5, 2, -3}, {0, 7, 6}, {0, math.MinInt, -6}, {far, 1, far + 1}, {far + 9, 0, far}, {math.MinInt, -9, -far - 6},
		} {
			if r := n.Reading(x.other, x.misread); r != x.want {
				t.Errorf("%s: %v: %d", state, x, r)
			}
		}
		is(t, n, was)
	}
	n := started(t, some(), 0, -100)
	if r := n.Reading(50, -2); r != 148 {
		t.Errorf("%d", r)
	}
}
