package clock_test

import (
	"math"
	"testing"

	"rota/api"
	"rota/clock"
)

// all are all members, of nodes that there are and of others.
const all = 1<<16 - 1

// far is how far an offset may be from 0.
const far = 1 << 40

// wild are numbers that are no node's, and of which some are a small one with
// bits above.
var wild = []int{-1, -2, -16, math.MinInt, math.MinInt32, math.MaxInt, math.MaxInt32, 16, 17, 256, 257, 1 << 32, 1<<32 + 1, -1 << 32}

// limited is of that many nodes, without partitions.
func limited(nodes, drift, reading, margin, bound int) api.Config {
	c := api.Config{Nodes: nodes, Drift: drift, Reading: reading, Margin: margin, Bound: bound, Rejoin: 1, Quota: 1}
	for node := range nodes {
		c.Owners = append(c.Owners, nodes-1-node)
		row := make([]int, nodes)
		for i := range row {
			row[i] = -1
		}
		c.Windows = append(c.Windows, row)
	}
	return c
}

// chapters is the configuration of the chapter's examples.
func chapters() api.Config { return limited(4, 1, 1, 20, 20) }

// some is one of whose limits no two are the same.
func some() api.Config { return limited(5, 3, 6, 90, 70) }

// widest has as many nodes, and limits as great, as may be.
func widest() api.Config { return limited(16, 1<<20, 1<<20, 1<<24, 1<<24) }

// exact has clocks that neither drift nor misread, and the least limits.
func exact() api.Config { return limited(4, 0, 0, 2, 2) }

// mustNew ends the test if there is no clock.
func mustNew(t *testing.T, c api.Config) *clock.Clock {
	t.Helper()
	k, err := clock.New(c)
	if err != api.OK || k == nil {
		t.Fatalf("%v, %v", k, err)
	}
	return k
}

// Each of these does one thing, and tells of any other answer than the one
// that is wanted.

func stands(t *testing.T, k *clock.Clock, want int) {
	t.Helper()
	if n := k.Offset(); n != want {
		t.Errorf("offset %d, not %d", n, want)
	}
}

func sets(t *testing.T, k *clock.Clock, offset int) {
	t.Helper()
	if err := k.Set(offset); err != api.OK {
		t.Errorf("set %d: %v", offset, err)
	}
	stands(t, k, offset)
}

func drifts(t *testing.T, k *clock.Clock, by, want int) {
	t.Helper()
	if err := k.Drift(by); err != api.OK {
		t.Errorf("drift %d: %v", by, err)
	}
	stands(t, k, want)
}

func reads(t *testing.T, k *clock.Clock, other, misread, want int) {
	t.Helper()
	if n := k.Read(other, misread); n != want {
		t.Errorf("read %d, %d: %d, not %d", other, misread, n, want)
	}
}

func fits(t *testing.T, k *clock.Clock, reading int, want bool) {
	t.Helper()
	if k.Fits(reading) != want {
		t.Errorf("fits %d: not %v", reading, want)
	}
}

func hears(t *testing.T, k *clock.Clock, node, reading int) {
	t.Helper()
	if err := k.Hear(node, reading); err != api.OK {
		t.Errorf("hear %d, %d: %v", node, reading, err)
	}
}

// hearsAll is of nodes from 0 on.
func hearsAll(t *testing.T, k *clock.Clock, readings ...int) {
	t.Helper()
	for node, reading := range readings {
		hears(t, k, node, reading)
	}
}

func averages(t *testing.T, k *clock.Clock, members uint16, own, want int) {
	t.Helper()
	if n, ok := k.Average(members, own); n != want || !ok {
		t.Errorf("average of %b, own %d: %d, %v, not %d", members, own, n, ok, want)
	}
}

func averagesNone(t *testing.T, k *clock.Clock, members uint16, own int) {
	t.Helper()
	if n, ok := k.Average(members, own); n != 0 || ok {
		t.Errorf("average of %b, own %d: %d, %v, not nothing", members, own, n, ok)
	}
}

func rounds(t *testing.T, k *clock.Clock, members uint16, own, want int) {
	t.Helper()
	if n, err := k.Round(members, own); n != want || err != api.OK {
		t.Errorf("round of %b, own %d: %d, %v, not %d", members, own, n, err, want)
	}
}
