package config_test

import (
	"math"
	"math/rand"
	"reflect"
	"testing"

	"rota/api"
	"rota/config"
)

// P2.2: the precision, of the examples and at its ends.
func TestPrecision(t *testing.T) {
	for _, x := range []struct{ drift, reading, want int }{
		{10, 2, 25},
		{1, 1, 5},
		{0, 0, 1},
		{1, 0, 3},
		{0, 1, 3},
		{1 << 20, 1 << 20, 1<<22 + 1},
		{-5, 2, -5},
		{-1, 0, -1},
		{math.MaxInt / 2, 0, math.MaxInt},
		{math.MaxInt, 0, -1}, // goes round
		{math.MaxInt, 1, 1},
		{math.MinInt, 0, 1},
		{math.MinInt, 5, 11},
	} {
		if n := config.Precision(api.Config{Drift: x.drift, Reading: x.reading}); n != x.want {
			t.Errorf("%d, %d: %d, not %d", x.drift, x.reading, n, x.want)
		}
	}
}

// P2.2: nothing but Drift and Reading is looked at.
func TestPrecisionOfAnyOther(t *testing.T) {
	r := rand.New(rand.NewSource(7))
	for range 200 {
		c := odd(r)
		c.Drift, c.Reading = 10, 2
		if n := config.Precision(c); n != 25 {
			t.Errorf("%v: %d", c, n)
		}
	}
}

// P2.3: whose each slot is, of the examples and far on.
func TestOwner(t *testing.T) {
	c := plain()
	for slot, want := range map[int]int{0: 2, 1: 0, 2: 1, 3: 3, 4: 2, 5: 0, 6: 1, 7: 3, 4_000_002: 1, math.MaxInt: 3, math.MaxInt - 3: 2} {
		if n := config.Owner(c, slot); n != want {
			t.Errorf("%d: %d, not %d", slot, n, want)
		}
	}
	for _, slot := range []int{-1, -4, -5, math.MinInt} {
		if n := config.Owner(c, slot); n != -1 {
			t.Errorf("%d: %d", slot, n)
		}
	}
}

// P2.3: Owner of ones that need not be: what is asked is told, or -1.
func TestOwnerOfOthers(t *testing.T) {
	for _, x := range []struct {
		nodes  int
		owners []int
		slot   int
		want   int
	}{
		{1, []int{7}, 0, 7},
		{1, []int{7}, 12, 7},
		{2, []int{-9, 1 << 40}, 3, 1 << 40},
		{2, []int{-9, 1 << 40}, 4, -9},
		{3, []int{5, 5, 6}, 2, 6},
		{17, make([]int, 17), 40, 0},
		{0, nil, 0, -1},
		{0, []int{}, 0, -1},
		{0, []int{3}, 0, -1},
		{-1, nil, 0, -1},
		{-4, []int{0, 1, 2, 3}, 0, -1},
		{4, []int{0, 1, 2}, 0, -1},
		{4, []int{0, 1, 2, 3, 0}, 0, -1},
		{4, nil, 1, -1},
		{4, []int{0, 1, 2, 3}, -1, -1},
		{math.MaxInt, []int{1}, 0, -1},
		{math.MinInt, []int{1}, 0, -1},
	} {
		if n := config.Owner(api.Config{Nodes: x.nodes, Owners: x.owners}, x.slot); n != x.want {
			t.Errorf("%v: %d", x, n)
		}
	}
}

// P2.3: at which place a node stands first; Nodes is not looked at.
func TestTurn(t *testing.T) {
	for _, x := range []struct {
		owners []int
		node   int
		want   int
	}{
		{[]int{2, 0, 1, 3}, 0, 1},
		{[]int{2, 0, 1, 3}, 1, 2},
		{[]int{2, 0, 1, 3}, 2, 0},
		{[]int{2, 0, 1, 3}, 3, 3},
		{[]int{2, 0, 1, 3}, 4, -1},
		{[]int{2, 0, 1, 3}, -1, -1},
		{[]int{2, 1, 1, 2}, 1, 1},
		{[]int{2, 1, 1, 2}, 2, 0},
		{[]int{2, 1, 1, 2}, 0, -1},
		{[]int{5, -3, 1 << 40}, -3, 1},
		{[]int{5, -3, 1 << 40}, 1 << 40, 2},
		{nil, 0, -1},
		{[]int{}, 0, -1},
	} {
		for _, nodes := range []int{4, 0, -1, 100} {
			if n := config.Turn(api.Config{Nodes: nodes, Owners: x.owners}, x.node); n != x.want {
				t.Errorf("%v: %d", x, n)
			}
		}
	}
}

// P2.6: of one that may be, each node has one slot of a round.
func TestEachHasOneSlot(t *testing.T) {
	r := rand.New(rand.NewSource(4))
	for nodes := 4; nodes <= 16; nodes++ {
		c := sized(nodes)
		c.Owners = r.Perm(nodes)
		if err := config.Check(c); err != api.OK {
			t.Fatal(err)
		}
		slots := make([]int, nodes)
		for slot := range nodes {
			n := config.Owner(c, slot)
			slots[n]++
			if turn := config.Turn(c, n); turn != slot {
				t.Errorf("slot %d: node %d, whose turn is %d", slot, n, turn)
			}
			if again := config.Owner(c, slot+7*nodes); again != n {
				t.Errorf("slot %d: node %d, and %d", slot, n, again)
			}
		}
		for n, k := range slots {
			if k != 1 {
				t.Errorf("node %d has %d slots", n, k)
			}
		}
	}
}

// P2.5: what is handed in stays as it is, the room behind too.
func TestConfigOnlyRead(t *testing.T) {
	for _, c := range samples() {
		c = roomy(c)
		was := copied(whole(c))
		config.Check(c)
		config.Precision(c)
		config.Owner(c, 5)
		config.Turn(c, 1)
		config.Reach(c)
		if !reflect.DeepEqual(whole(c), was) {
			t.Errorf("%v: was turned", was)
		}
	}
}
