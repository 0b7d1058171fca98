package timing_test

import (
	"testing"

	"rota/api"
)

// P18.2: the chapter's examples.
func TestDelayOfTheChapter(t *testing.T) {
	c := ofTheChapter()
	isDelay(t, c, 0, 0, 0, 5, api.OK)
	isDelay(t, c, 0, 0, 1, 4, api.OK)
	isDelay(t, c, 0, 0, 2, 7, api.OK)
	isDelay(t, c, 0, 0, 5, 4, api.OK)
	isWorst(t, c, 0, 0, 5, api.OK)
}

// P18.2: link 0 is of partition 0, which runs in slots 0, 3 and 4 of a round, and goes on
// the bus in slot 0; its Dests' partitions run in slot 5, in each slot, in slot 2, and in
// those of its own; the last one never does.
func TestDelayOfFull(t *testing.T) {
	c := full()
	for place, want := range [][]int{
		{5, 10, 9, 8, 7, 6, 5, 10},
		{1, 6, 5, 4, 3, 2, 1, 6},
		{2, 7, 6, 5, 4, 3, 2, 7},
		{3, 8, 7, 6, 5, 4, 3, 8},
	} {
		for slot, n := range want {
			isDelay(t, c, 0, place, slot, n, api.OK)
		}
		isWorst(t, c, 0, place, max(want[0], want[3], want[4]), api.OK)
	}
	isDelay(t, c, 0, 4, 0, 0, api.ErrTiming)
	isWorst(t, c, 0, 4, 0, api.ErrTiming)
}

// P18.2: the source need not run for a delay, but for the worst one it must.
func TestOfWhoNeverRuns(t *testing.T) {
	c := full()
	// Link 1 is of partition 5, which never runs; node 1's slot is 1, and the Dest's is 2.
	isDelay(t, c, 1, 0, 0, 2, api.OK)
	isDelay(t, c, 1, 0, 1, 1, api.OK)
	isDelay(t, c, 1, 0, 2, 6, api.OK)
	isWorst(t, c, 1, 0, 0, api.ErrTiming)
	// Link 3 goes to partition 5, too; the other Dest is in each slot.
	isDelay(t, c, 3, 0, 2, 0, api.ErrTiming)
	isWorst(t, c, 3, 0, 0, api.ErrTiming)
	isDelay(t, c, 3, 1, 2, 5, api.OK)
	isWorst(t, c, 3, 1, 5, api.OK)
}

// P18.2: what runs in the very slot of the sending is too early for it, on its own node
// and on another one.
func TestTooEarly(t *testing.T) {
	c := bare(1, 0, 2, 3)
	c.Parts = []api.Part{{Node: 0}, {Node: 3}, {Node: 0}}
	c.Windows[0], c.Windows[3] = []int{0, 2, -1, -1}, []int{-1, 1, -1, -1}
	c.Ports = []api.Port{source(0, 1), dest(1, 1), dest(2, 1), dest(0, 1)}
	c.Links = []api.Link{{Source: 0, Dests: []int{1, 2, 3}}}
	for place := range 2 {
		isDelay(t, c, 0, place, 0, 5, api.OK)
		isDelay(t, c, 0, place, 1, 4, api.OK)
		isWorst(t, c, 0, place, 5, api.OK)
		c.Windows[0][2], c.Windows[3][2] = 2, 1
		isDelay(t, c, 0, place, 0, 2, api.OK)
		c.Windows[0][2], c.Windows[3][2] = -1, -1
	}
	isDelay(t, c, 0, 2, 0, 4, api.OK)
}

// P18.2: the last slots that may be asked of. The getting may be behind them.
func TestDelayOfLastSlots(t *testing.T) {
	c := ofTheChapter()
	isDelay(t, c, 0, 0, high-1, 6, api.OK)
	isDelay(t, c, 0, 0, high, 5, api.OK)
	isDelay(t, full(), 0, 0, high, 7, api.OK)
}

// P18.2: of configurations of all kinds, slot by slot.
func TestDelayOfAll(t *testing.T) {
	how := map[api.Errno]int{}
	for _, c := range some() {
		for link, l := range c.Links {
			for place := range l.Dests {
				how[isDelayOf(t, c, link, place)]++
			}
		}
	}
	for _, err := range []api.Errno{api.OK, api.ErrTiming} {
		if how[err] < 300 {
			t.Errorf("only %d of error %v", how[err], err)
		}
	}
}

// isDelayOf answers what the worst delay's error is.
func isDelayOf(t *testing.T, c api.Config, link, place int) api.Errno {
	t.Helper()
	from, to := way(c, link, place)
	if !isEver(c, to) {
		isDelay(t, c, link, place, 0, 0, api.ErrTiming)
		isWorst(t, c, link, place, 0, api.ErrTiming)
		return api.ErrTiming
	}
	worst := 0
	for slot := range 2 * c.Nodes {
		n := getting(c, from, to, slot) - slot
		isDelay(t, c, link, place, slot, n, api.OK)
		if isRun(c, from, slot) {
			worst = max(worst, n)
		}
	}
	if worst == 0 {
		isWorst(t, c, link, place, 0, api.ErrTiming)
		return api.ErrTiming
	}
	isWorst(t, c, link, place, worst, api.OK)
	return api.OK
}
