package timing_test

import (
	"testing"

	"rota/api"
	"rota/timing"
)

// found ends the test, if there is an error.
func found(t *testing.T, n int, err api.Errno) int {
	t.Helper()
	if err != api.OK {
		t.Fatal(err)
	}
	return n
}

// P18.5: a round later all comes a round later.
func TestARoundLater(t *testing.T) {
	for _, c := range some() {
		for _, slot := range []int{0, 1, c.Nodes - 1, 7777, high - c.Nodes} {
			isARoundLater(t, c, slot)
		}
	}
}

func isARoundLater(t *testing.T, c api.Config, slot int) {
	t.Helper()
	for part := range c.Parts {
		if isEver(c, part) {
			n, err := timing.Runs(c, part, slot)
			isRuns(t, c, part, slot+c.Nodes, found(t, n, err)+c.Nodes, api.OK)
		}
	}
	for node := range c.Nodes {
		n, err := timing.Sends(c, node, slot)
		isSends(t, c, node, slot+c.Nodes, found(t, n, err)+c.Nodes, api.OK)
	}
	for link, l := range c.Links {
		for place := range l.Dests {
			n, err := timing.Delay(c, link, place, slot)
			isDelay(t, c, link, place, slot+c.Nodes, n, err)
		}
		n, err := timing.Chain(c, []int{link, 0}, slot)
		if err == api.OK {
			n += c.Nodes
		}
		isChain(t, c, []int{link, 0}, slot+c.Nodes, n, err)
	}
}

// P18.5: each delay is from 1 to 2 times Nodes, less 1; and there are some at both ends.
func TestEndsOfDelays(t *testing.T) {
	var shortest, longest int
	for _, c := range some() {
		for link, l := range c.Links {
			for place := range l.Dests {
				for slot := range c.Nodes {
					n, err := timing.Delay(c, link, place, slot)
					switch {
					case err == api.ErrTiming:
						continue
					case found(t, n, err) < 1 || n > 2*c.Nodes-1:
						t.Errorf("%d of link %d, place %d, slot %d, %+v", n, link, place, slot, c)
					case n == 1:
						shortest++
					case n == 2*c.Nodes-1:
						longest++
					}
				}
			}
		}
	}
	if shortest < 100 || longest < 100 {
		t.Errorf("only %d of 1, %d of the most", shortest, longest)
	}
}

// P18.5: a share is of a round; a pause is no longer than one, and is so just for who runs
// once; and who runs often pauses for no less than its share lets it.
func TestSharesAndPauses(t *testing.T) {
	for _, c := range some() {
		for part := range c.Parts {
			share, err := timing.Share(c, part)
			if found(t, share, err) > c.Nodes || share < 0 {
				t.Errorf("share %d of %+v", share, c)
			}
			pause, err := timing.Pause(c, part)
			if share == 0 {
				isPause(t, c, part, 0, api.ErrTiming)
				continue
			}
			if found(t, pause, err) > c.Nodes || pause*share < c.Nodes || (pause == c.Nodes) != (share == 1) {
				t.Errorf("pause %d, share %d of %+v", pause, share, c)
			}
		}
	}
}
