package cluster_test

import (
	"testing"

	"rota/api"
)

// P11.2: each node whose bit Restart has is started, by its offset; where there
// is none, by 0; in whatever state it is. Nobody else is.
func TestRestart(t *testing.T) {
	for _, c := range several() {
		for _, hot := range []bool{true, false} {
			k := mustNew(t, c, hot)
			// In a round's first slot clocks would drift; who hears nothing stays
			// as it was started.
			idles(t, k, 1)
			state := k.State(2)
			for k.Slot() < c.Nodes-1 {
				x := deaf(0xffff)
				x.Restart, x.Offsets = 0b1011, []int{5, -700, 9}
				steps(t, k, x)
				is(t, k, 0, seen{api.Listen, 0, -1, 5})
				is(t, k, 1, seen{api.Listen, 0, -1, -700})
				is(t, k, 3, seen{api.Listen, 0, -1, 0})
				if s := look(k, 2); s.state != state || s.offset != 0 {
					t.Errorf("slot %d: %+v", k.Slot(), s)
				}
			}
		}
	}
}

// P11.2: an offset that is refused is 0; the ends are not.
func TestRestartByWhatIsRefused(t *testing.T) {
	c := widest()
	k := mustNew(t, c, false)
	idles(t, k, 1)
	all := uint16(0xffff)
	steps(t, k, starts(all, 1, 2, 3, 4, 5, 6, 7, 8))
	steps(t, k, starts(all, far, -far, far+1, -far-1, wild[3], wild[5], 1-far, far-1, 2))
	for id, want := range []int{far, -far, 0, 0, 0, 0, 1 - far, far - 1, 2, 0, 0, 0, 0, 0, 0, 0} {
		is(t, k, id, seen{api.Listen, 0, -1, want})
	}
}

// P11.2: bits of nodes that there are not start nobody, nor does a choice
// without bits.
func TestRestartOfNobody(t *testing.T) {
	k := mustNew(t, chapters(), false)
	idles(t, k, 1)
	steps(t, k, starts(0xfff0, 1, 2, 3, 4, 5, 6, 7), starts(0, 1, 2, 3, 4))
	for id := range 16 {
		is(t, k, id, seen{api.Off, 0, -1, 0})
	}
}

// P11.2: who is started in a slot is on in it, and has forgotten what was ahead
// of it; its partitions go on with the operations that were not used yet.
func TestRestartIsAheadOfWindows(t *testing.T) {
	c := chapters()
	c.Quota = 2
	stream := []api.Op{write(1, 7), read(1), raise, raise, raise, read(1), read(1), write(1, 8), read(1)}
	k := mustNew(t, c, false, stream)
	idles(t, k, 1)
	traces(t, k, 0)
	steps(t, k, starts(1), api.Choice{})
	want := []api.Result{did(1, api.OK), did(1, api.OK, 7), did(2, api.ErrRaised), did(2, api.ErrRaised)}
	traces(t, k, 0, want...)
	steps(t, k, api.Choice{})
	want = append(want, did(3, api.ErrRaised), did(3, api.ErrStopped))
	traces(t, k, 0, want...)
	if k.Faults(0) != 3 {
		t.Errorf("%d faults", k.Faults(0))
	}
	steps(t, k, starts(1), api.Choice{}, api.Choice{})
	want = append(want, did(4, api.OK, 0), did(4, api.OK), did(5, api.OK, 8))
	traces(t, k, 0, want...)
	if k.Faults(0) != 0 {
		t.Errorf("%d faults", k.Faults(0))
	}
}

// P11.2: in the first slot of a round clocks drift, by no more than Drift, those
// of nodes that are off, too; in no other slot.
func TestDrift(t *testing.T) {
	for _, c := range several() {
		k := mustNew(t, c, false)
		x := api.Choice{Drift: []int{2, -1, 99}}
		for k.Slot() < 3*c.Nodes {
			steps(t, k, x)
			rounds := (k.Slot() + c.Nodes - 1) / c.Nodes
			for id, by := range []int{2, -1, c.Drift, 0} {
				is(t, k, id, seen{api.Off, 0, -1, rounds * by})
			}
		}
		x.Drift = append(make([]int, c.Nodes-1), -99, 99, 99)
		offset := k.Offset(0)
		steps(t, k, x, x)
		is(t, k, c.Nodes-1, seen{api.Off, 0, -1, -c.Drift})
		is(t, k, 0, seen{api.Off, 0, -1, offset})
	}
}

// P11.2: who is started in the first slot of a round drifts from its new offset
// on.
func TestRestartIsAheadOfDrift(t *testing.T) {
	k := mustNew(t, chapters(), false)
	x := starts(0b11, 100, far)
	x.Drift = []int{-2, 3, 1}
	steps(t, k, x)
	is(t, k, 0, seen{api.Listen, 0, -1, 98})
	is(t, k, 1, seen{api.Listen, 0, -1, far})
	is(t, k, 2, seen{api.Off, 0, -1, 1})
}
