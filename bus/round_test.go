package bus

import (
	"testing"

	"rota/api"
)

// P7.2: counts go round at 2^64. Nobody can send as often as that, so the
// counts are set from within.
func TestCountsGoRound(t *testing.T) {
	c := api.Config{Nodes: 4, Owners: []int{0, 1, 2, 3}, Margin: 60, Bound: 60, Rejoin: 1, Quota: 1}
	for range c.Nodes {
		c.Windows = append(c.Windows, []int{-1, -1, -1, -1})
	}
	b, err := New(c)
	if err != api.OK {
		t.Fatal(err)
	}
	b.passed.Store(1<<64 - 1)
	b.blocked.Store(1<<64 - 2)
	for i, want := range [][2]uint64{{0, 0}, {1, 2}} {
		b.Pass(0, []api.Send{{Node: 0}, {Node: 1}, {Node: 0}})
		if p, n := b.Passed(), b.Blocked(); p != want[0] || n != want[1] {
			t.Errorf("%d: %d passed, %d blocked, not %v", i, p, n, want)
		}
	}
}
