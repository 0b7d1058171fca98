package timing_test

import (
	"testing"

	"rota/api"
	"rota/timing"
)

// P18.1: the chapter's examples.
func TestRunsOfTheChapter(t *testing.T) {
	c := ofTheChapter()
	isRuns(t, c, 0, 1, 4, api.OK)
	isRuns(t, c, 1, 1, 1, api.OK)
	isRuns(t, c, 2, 1, 0, api.ErrTiming)
	isSends(t, c, 0, 2, 5, api.OK)
	isShare(t, c, 0, 1, api.OK)
	isPause(t, c, 0, 4, api.OK)
	isShare(t, c, 2, 0, api.OK)
	isPause(t, c, 2, 0, api.ErrTiming)
}

// P18.1: of partition 0, which runs in slots 0, 3 and 4 of six; of node 5, whose turn is
// slot 2; of who always runs, and of who never does.
func TestRunsOfFull(t *testing.T) {
	c := full()
	for slot, want := range []int{0, 3, 3, 3, 4, 6, 6, 9, 9, 9, 10, 12, 12} {
		isRuns(t, c, 0, slot, want, api.OK)
		isRuns(t, c, 1, slot, slot, api.OK)
		isRuns(t, c, 3, slot, 0, api.ErrTiming)
		isRuns(t, c, 5, slot, 0, api.ErrTiming)
	}
	for slot, want := range []int{2, 2, 2, 8, 8, 8, 8, 8, 8, 14} {
		isSends(t, c, 5, slot, want, api.OK)
	}
	for part, want := range []struct{ share, pause int }{{3, 3}, {6, 1}, {1, 6}, {}, {1, 6}, {}} {
		isShare(t, c, part, want.share, api.OK)
		err := api.OK
		if want.share == 0 {
			err = api.ErrTiming
		}
		isPause(t, c, part, want.pause, err)
	}
}

// P18.1: a pause may be the one round the end, from a round's last window to the first
// one of the next, or any one between.
func TestPauses(t *testing.T) {
	for want, rows := range map[int][][]int{
		1: {{0, 0, 0, 0, 0}},
		2: {{0, 0, 0, 0, -1}, {-1, 0, 0, 0, 0}, {0, -1, 0, 0, 0}, {0, -1, 0, -1, 0}, {-1, 0, -1, 0, 0}},
		3: {{0, 0, 0, -1, -1}, {-1, 0, 0, 0, -1}, {0, -1, -1, 0, 0}, {0, 0, -1, -1, 0}, {0, -1, -1, 0, -1}, {-1, 0, -1, 0, -1}},
		4: {{0, 0, -1, -1, -1}, {0, -1, -1, -1, 0}, {-1, 0, 0, -1, -1}},
		5: {{0, -1, -1, -1, -1}, {-1, -1, 0, -1, -1}, {-1, -1, -1, -1, 0}},
	} {
		for _, row := range rows {
			c := bare(0, 1, 2, 3, 4)
			c.Parts = []api.Part{{Node: 2}, {Node: 2}}
			c.Windows[2] = row
			isPause(t, c, 0, want, api.OK)
			// What another one does in between counts for nothing.
			for slot, given := range row {
				if given == -1 {
					row[slot] = 1
				}
			}
			isPause(t, c, 0, want, api.OK)
		}
	}
}

// P18.1: of configurations of all kinds, slot by slot.
func TestRunsOfAll(t *testing.T) {
	for _, c := range some() {
		mayBe(t, c)
		for part := range c.Parts {
			isRunsOf(t, c, part)
			isShareOf(t, c, part)
		}
		for node := range c.Nodes {
			for from := range 2*c.Nodes + 1 {
				slot := from
				for c.Owners[slot%c.Nodes] != node {
					slot++
				}
				isSends(t, c, node, from, slot, api.OK)
			}
		}
	}
}

func isRunsOf(t *testing.T, c api.Config, part int) {
	t.Helper()
	for from := range 2*c.Nodes + 1 {
		if !isEver(c, part) {
			isRuns(t, c, part, from, 0, api.ErrTiming)
			continue
		}
		slot := from
		for !isRun(c, part, slot) {
			slot++
		}
		isRuns(t, c, part, from, slot, api.OK)
	}
}

func isShareOf(t *testing.T, c api.Config, part int) {
	t.Helper()
	share, pause, last := 0, 0, most
	for slot := range 3 * c.Nodes {
		if !isRun(c, part, slot) {
			continue
		}
		if slot < c.Nodes {
			share++
		}
		pause, last = max(pause, slot-last), slot
	}
	isShare(t, c, part, share, api.OK)
	if share == 0 {
		isPause(t, c, part, 0, api.ErrTiming)
	} else {
		isPause(t, c, part, pause, api.OK)
	}
}

// P18.1: the last slots that may be asked of. The answer may be behind them.
func TestLastSlots(t *testing.T) {
	// 2^30 is slot 0 of a round of four, and slot 4 of one of six.
	c := ofTheChapter()
	isRuns(t, c, 0, high-1, high, api.OK)
	isRuns(t, c, 0, high, high, api.OK)
	isRuns(t, c, 1, high, high+1, api.OK)
	isSends(t, c, 3, high, high+3, api.OK)
	isSends(t, c, 2, high, high, api.OK)
	c = full()
	isRuns(t, c, 2, high, high+4, api.OK)
	isRuns(t, c, 3, high, 0, api.ErrTiming)
	isSends(t, c, 0, high, high+5, api.OK)
	for _, slot := range noSlots {
		if n, err := timing.Runs(c, 0, slot); n != 0 || err != api.ErrArg {
			t.Errorf("%d: %d, %v", slot, n, err)
		}
	}
}
