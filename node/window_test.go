package node_test

import (
	"testing"

	"rota/api"
)

// P10.2: a node that is off lets no partition run, and nothing is done.
func TestWindowOfOneThatIsOff(t *testing.T) {
	n := mustNew(t, some(), 0)
	for _, slot := range append([]int{0, 1, 99}, below...) {
		for part := range 4 {
			runsNone(t, n, part, slot, write(0, 9), put(0, 1, 2), raise, raise, raise)
		}
	}
	isNew(t, n, some())
	joins(t, n, 0)
	runs(t, n, 0, 0, fine(read(0), 0))
}

// P10.2: one that is on does, in whatever state it is: what the kernel's Run
// answers.
func TestWindow(t *testing.T) {
	for state, n := range inAllStates(t, some(), 0) {
		t.Run(state, func(t *testing.T) {
			was := look(n)
			runs(t, n, 0, 3, fine(write(7, 9)), fine(read(7), 9), not(read(8), api.ErrFault), fine(put(0, 1, 2)), not(put(0, 1), api.ErrSize), not(get(4), api.ErrEmpty))
			runs(t, n, 2, 4, fine(read(7), 0), not(get(9), api.ErrPort), not(raise, api.ErrRaised), not(api.Op{Kind: 9}, api.ErrOp))
			waits(t, n, 0, 1)
			if n.Faults(0) != 1 || n.Faults(2) != 1 {
				t.Errorf("faults %d, %d", n.Faults(0), n.Faults(2))
			}
			ops := make([]api.Op, 20)
			for i := range ops {
				ops[i] = read(i % 8)
			}
			if l, count := n.Window(0, 5, ops); count != 8 || len(l) != 8 {
				t.Errorf("%d done of a quota of 8, %v", count, l)
			}
			ops[2] = api.Op{Kind: api.OpYield}
			if l, count := n.Window(0, 5, ops); count != 3 || len(l) != 3 {
				t.Errorf("%d done up to a yield, %v", count, l)
			}
			if l, count := n.Window(0, 5, nil); count != 0 || len(l) != 0 {
				t.Errorf("%d done of none, %v", count, l)
			}
			is(t, n, was)
		})
	}
}

// P10.2: other nodes' partitions, such as there are not, and slots below 0: as
// the kernel has it, nothing.
func TestWindowOfNothing(t *testing.T) {
	for _, n := range inAllStates(t, some(), 0) {
		for _, part := range append([]int{1, 3, 4, 5}, wild...) {
			runsNone(t, n, part, 0, read(0), raise)
		}
		for _, slot := range below {
			runsNone(t, n, 0, slot, read(0), raise)
		}
		isNew(t, n, some())
	}
}

// P10.2: the slot is the bus's, whatever the counter is: a sampling port's
// message goes stale by it.
func TestWindowsSlot(t *testing.T) {
	c := some()
	n := joined(t, c, 0, 3)
	hears(t, n, 700, says(t, c, 3, 31, with(payload{}, 7, 5)), 0, come(700, 0, 4, 0, 5))
	runs(t, n, 0, 702, fine(get(4), 5))
	runs(t, n, 0, 703, not(get(4), api.ErrStale))
	runs(t, n, 0, 4, fine(get(4), 5))
}
