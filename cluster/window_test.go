package cluster_test

import (
	"slices"
	"testing"

	"rota/api"
)

// P11.2: each node lets the partition run whose window the slot is, with the
// operations that are not used yet.
func TestWindows(t *testing.T) {
	c := some()
	c.Quota = 1
	stream := slices.Repeat([]api.Op{yield}, 12)
	k := mustNew(t, c, true, slices.Repeat([][]api.Op{stream}, 5)...)
	idles(t, k, 15)
	for part, slots := range [][]int{
		{0, 2, 5, 7, 10, 12},
		{0, 1, 2, 3, 4, 5, 6, 7, 8, 9, 10, 11},
		{1, 4, 6, 9, 11, 14},
		{1, 3, 6, 8, 11, 13},
		{4, 9, 14},
	} {
		var want []api.Result
		for _, slot := range slots {
			want = append(want, did(slot, api.OK))
		}
		traces(t, k, part, want...)
	}
}

// P11.2: as many as Quota are used in a window, and none behind a yield; each
// once, in order.
func TestWindowsUse(t *testing.T) {
	c := chapters()
	c.Quota = 3
	stream := []api.Op{write(0, 5), write(1, 6), read(0), read(1), yield, read(2), yield, yield, read(0)}
	k := mustNew(t, c, true, stream)
	for _, used := range []int{3, 5, 7, 8, 9, 9, 9} {
		steps(t, k, api.Choice{})
		if k.Used(0) != used {
			t.Errorf("slot %d: %d used, not %d", k.Slot(), k.Used(0), used)
		}
	}
	traces(t, k, 0, did(0, api.OK), did(0, api.OK), did(0, api.OK, 5), did(1, api.OK, 6), did(1, api.OK),
		did(2, api.OK, 0), did(2, api.OK), did(3, api.OK), did(4, api.OK, 5))
}

// P11.2: on a node that is off nobody runs; on one that listens, or is frozen,
// partitions do. The slots of results are the bus's, whatever a node's counter.
func TestWindowsByState(t *testing.T) {
	c := chapters()
	c.Quota = 1
	stream := slices.Repeat([]api.Op{yield}, 99)
	k := mustNew(t, c, false, stream)
	idles(t, k, 6)
	traces(t, k, 0)
	steps(t, k, starts(1))
	want := []api.Result{did(6, api.OK)}
	for k.Slot() < 30 {
		want = append(want, did(k.Slot(), api.OK))
		steps(t, k, api.Choice{})
	}
	traces(t, k, 0, want...)
	is(t, k, 0, seen{api.Active, 1, 14, 0})

	k = mustNew(t, c, true, stream)
	want = nil
	for k.Slot() < 14 {
		want = append(want, did(k.Slot(), api.OK))
		steps(t, k, deaf(1))
	}
	is(t, k, 0, seen{api.Frozen, 0, -1, 0})
	traces(t, k, 0, want...)
}

// P11.2: what a partition of the owner sends in a slot goes out in it; what
// comes in a slot is there in the next one's windows.
func TestWindowsAreAheadOfTheBus(t *testing.T) {
	c := chapters()
	c.Parts = append(c.Parts, api.Part{Node: 3})
	c.Windows[3] = []int{1, 1, 1, 1}
	c.Ports = []api.Port{source(0, 1, 0), sample(1, 1, 2), source(1, 1, 2), queue(0, 1, 2)}
	c.Links = []api.Link{{Source: 0, Dests: []int{1}, Offset: 62}, {Source: 2, Dests: []int{3}}}
	k := mustNew(t, c, true,
		[]api.Op{put(0, 5), yield, yield, yield, get(3), yield, get(3), yield, put(0, 6)},
		[]api.Op{get(1), yield, get(1), yield, get(1), put(2, 9), yield, put(2, 8), yield, get(1), yield, get(1)})
	idles(t, k, 6)
	ok := func(slot int, data ...byte) api.Result { return did(slot, api.OK, data...) }
	traces(t, k, 0, ok(0), ok(0), ok(1), ok(2), did(3, api.ErrEmpty), ok(3), ok(4, 9), ok(4), ok(5))
	traces(t, k, 1, did(0, api.ErrEmpty), ok(0), ok(1, 5), ok(1), did(2, api.ErrStale), ok(2), ok(2), ok(3), ok(3),
		did(4, api.ErrStale), ok(4), ok(5, 5))
	comes(t, k, come(0, 3, 1, 0, 5), come(3, 0, 3, 1, 9), come(4, 3, 1, 0, 5))
}
