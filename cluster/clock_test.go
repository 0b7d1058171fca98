package cluster_test

import (
	"testing"

	"rota/api"
)

// P11.2: each other node reads the owner's clock, as it is behind this slot's
// drift, with its own misreading, cut to Reading: who follows nobody yet goes by
// that.
func TestReadings(t *testing.T) {
	for _, x := range []struct {
		misread []int
		want    int
	}{
		{nil, 3}, {[]int{5, 6}, 3}, {[]int{5, 6, -4, 5}, -1}, {[]int{9, 9, 6, 9, 9}, 9}, {[]int{0, 0, 99}, 9}, {[]int{0, 0, -99}, -3},
	} {
		for _, offset := range []int{0, 50, -1000, far} {
			k := mustNew(t, chapters(), true)
			choice := starts(1<<2, 7, 7, offset)
			choice.Drift, choice.Misread = []int{3, 1, -2, 2}, x.misread
			steps(t, k, choice)
			is(t, k, 0, seen{api.Active, 15, 1, 3})
			is(t, k, 2, seen{api.Listen, 15, 1, x.want})
		}
	}
}

// P11.2: it is the clock of the slot's owner that is read.
func TestReadingsOfTheOwner(t *testing.T) {
	for _, c := range several() {
		// With a round's last slot clocks are moved.
		for slot := 1; slot < c.Nodes-1; slot++ {
			k := mustNew(t, c, true)
			steps(t, k, api.Choice{Drift: []int{3, 1, -2, 2}})
			idles(t, k, slot)
			owner := ownerOf(c, slot)
			who := (owner + 1) % c.Nodes
			x := starts(1<<who, make([]int, c.Nodes)...)
			x.Offsets[who] = 77
			steps(t, k, x)
			is(t, k, who, seen{api.Listen, all(c), slot + 1, k.Offset(owner)})
		}
	}
}

// P11.2: at the end of a round's last slot each node's clock is moved by what it
// has read in the round.
func TestRounds(t *testing.T) {
	k := mustNew(t, chapters(), true)
	misread := func(by int) api.Choice { return api.Choice{Misread: []int{0, by, -by, 0}} }
	x := misread(4)
	x.Drift = []int{3}
	steps(t, k, x, misread(6), misread(5))
	for id, offset := range []int{3, 0, 0, 0} {
		is(t, k, id, seen{api.Active, 15, 3, offset})
	}
	steps(t, k, misread(1))
	// Node 0 read -3 three times; node 1 read 7, 5 and 1; node 2 read -1, -6 and
	// -1; node 3 read 3, 0 and 0. Each of them has a 0 of its own, too.
	for id, offset := range []int{0, 3, -1, 0} {
		is(t, k, id, seen{api.Active, 15, 4, offset})
	}
}

// P11.2: a clock that is too far away is not heard.
func TestReadingsBeyondTheMargin(t *testing.T) {
	c := chapters()
	k := mustNew(t, c, false)
	steps(t, k, starts(0b11, 0, 100))
	// Both become active by themselves: they hear nothing of each other.
	for k.Slot() < 5*c.Nodes {
		steps(t, k, deaf(0xffff))
	}
	for range 2 * c.Nodes {
		steps(t, k, api.Choice{})
		if k.State(0) != api.Active || k.State(1) != api.Active || k.Vector(0) != 1 || k.Vector(1) != 2 {
			t.Fatalf("slot %d: %+v, %+v", k.Slot(), look(k, 0), look(k, 1))
		}
	}
}
