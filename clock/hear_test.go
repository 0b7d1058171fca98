package clock_test

import (
	"math"
	"testing"

	"rota/api"
)

// P8.3: what was heard of each node that there is counts as that node's.
func TestHear(t *testing.T) {
	for _, c := range []api.Config{chapters(), some(), widest()} {
		k := mustNew(t, c)
		for node := range c.Nodes {
			averagesNone(t, k, 1<<node, -1)
			hears(t, k, node, 100+node)
			averages(t, k, 1<<node, -1, 100+node)
		}
		for node := range c.Nodes {
			averages(t, k, 1<<node, -1, 100+node)
		}
		stands(t, k, 0)
	}
}

// P8.3: an elder reading counts no more.
func TestHearAgain(t *testing.T) {
	k := mustNew(t, some())
	hearsAll(t, k, 1, 2, 30, 40)
	for _, n := range []int{-5, 0, 7, 7, -100} {
		hears(t, k, 1, n)
		averages(t, k, 2, -1, n)
		averages(t, k, 1, -1, 1)
	}
	averages(t, k, all, -1, 15)
}

// P8.3: readings as great as may be; a reading need not fit.
func TestHearGreatOnes(t *testing.T) {
	k := mustNew(t, exact())
	for _, n := range []int{3, -3, 1 << 32, -1 << 32, 2*far - 1, 1 - 2*far, 2 * far, -2 * far} {
		hears(t, k, 2, n)
		averages(t, k, all, -1, n)
	}
}

// P8.3: of no node, and beyond what may be, nothing is heard: an elder
// reading stays.
func TestHearWhatIsNone(t *testing.T) {
	beyond := []int{2*far + 1, -2*far - 1, 4 * far, -4 * far, math.MaxInt, math.MinInt, math.MinInt + 1}
	for _, c := range []api.Config{chapters(), some(), widest()} {
		k := mustNew(t, c)
		refuses := func(node, reading int) {
			t.Helper()
			if err := k.Hear(node, reading); err != api.ErrArg {
				t.Errorf("hear %d, %d: %v", node, reading, err)
			}
		}
		for _, node := range append([]int{c.Nodes, c.Nodes + 1}, wild...) {
			refuses(node, 0)
			refuses(node, math.MaxInt)
		}
		for node := range c.Nodes {
			for _, reading := range beyond {
				refuses(node, reading)
			}
		}
		averagesNone(t, k, all, -1)
		hears(t, k, 1, 5)
		for _, reading := range beyond {
			refuses(1, reading)
			averages(t, k, all, -1, 5)
		}
		stands(t, k, 0)
	}
}
