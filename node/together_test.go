package node_test

import (
	"math/rand"
	"testing"

	"rota/api"
	"rota/config"
	"rota/node"
)

// group is all nodes of a configuration, and a bus that they hear.
type group struct {
	c     api.Config
	nodes []*node.Node
	slot  int
	came  []api.Delivery
}

func newGroup(t *testing.T, c api.Config, hot bool) *group {
	t.Helper()
	g := &group{c: c}
	for id := range c.Nodes {
		n := mustNew(t, c, id)
		if hot {
			joins(t, n, 0)
		}
		g.nodes = append(g.nodes, n)
	}
	return g
}

// pass lets a slot pass, in which clocks drift and are misread by chance, and
// some hear silence.
func (g *group) pass(t *testing.T, r *rand.Rand, deaf uint16) {
	t.Helper()
	owner := ownerOf(g.c, g.slot)
	if g.slot%g.c.Nodes == 0 {
		for _, n := range g.nodes {
			n.Drift(r.Intn(21) - 10)
		}
	}
	b, came, ok := g.nodes[owner].Send(g.slot)
	g.came = append(g.came, came...)
	offset := g.nodes[owner].Offset()
	for id, n := range g.nodes {
		if id != owner {
			isDeaf := !ok || deaf>>id&1 == 1
			g.came = append(g.came, n.Hear(g.slot, b, isDeaf, n.Reading(offset, r.Intn(41)-20))...)
		}
	}
	for id, n := range g.nodes {
		if _, err := n.End(g.slot); err != api.OK {
			t.Fatalf("end of %d by %d: %v", g.slot, id, err)
		}
	}
	g.slot++
}

// agreed tells of one of these that is not Active, with their vector and
// counter, and with a clock near to the others'.
func (g *group) agreed(t *testing.T, who uint16) {
	t.Helper()
	least, most, counter := far, -far, -1
	for id, n := range g.nodes {
		if who>>id&1 == 0 {
			continue
		}
		least, most = min(least, n.Offset()), max(most, n.Offset())
		if counter < 0 {
			counter = n.Counter()
		}
		if n.State() != api.Active || n.Vector() != who || n.Counter() != counter {
			t.Fatalf("slot %d: node %d: %+v", g.slot, id, look(n))
		}
	}
	if most-least > config.Precision(g.c) {
		t.Fatalf("slot %d: clocks from %d to %d", g.slot, least, most)
	}
}

// P10.3 to P10.5: in a cluster of nodes that hear each other all stay, their
// clocks near to each other; what a partition sends comes to the others', in
// order, each message once, and to its own node's, too.
func TestTogether(t *testing.T) {
	r := rand.New(rand.NewSource(101))
	c := some()
	g := newGroup(t, c, true)
	all := all(c)
	for round := range byte(60) {
		runs(t, g.nodes[0], 0, g.slot, fine(put(0, round, 1)))
		runs(t, g.nodes[2], 3, g.slot, fine(put(8, round)))
		runs(t, g.nodes[1], 1, g.slot, fine(put(3, round+100)))
		for range c.Nodes {
			g.pass(t, r, 0)
			g.agreed(t, all)
		}
		runs(t, g.nodes[1], 1, g.slot, fine(get(1), round, 1), not(get(1), api.ErrEmpty), fine(get(11), round), not(get(7), api.ErrEmpty))
		runs(t, g.nodes[0], 2, g.slot, fine(get(2), round, 1), fine(get(10), round))
		runs(t, g.nodes[0], 0, g.slot, fine(get(9), round), fine(get(4), round+100))
		runs(t, g.nodes[2], 3, g.slot, fine(get(5), round+100))
	}
	if len(g.came) != 60*7 {
		t.Errorf("%d deliveries", len(g.came))
	}
	for i, d := range g.came {
		at := i / 7 * 5
		want := [7]api.Delivery{
			come(at, 0, 10, 3, byte(i/7)), come(at, 0, 9, 3, byte(i/7)), come(at, 1, 11, 3, byte(i/7)),
			come(at+1, 0, 2, 1, byte(i/7), 1), come(at+1, 1, 1, 1, byte(i/7), 1),
			come(at+3, 0, 4, 0, byte(i/7)+100), come(at+3, 2, 5, 0, byte(i/7)+100),
		}
		isSame(t, []api.Delivery{d}, []api.Delivery{want[i%7]})
	}
}

// P10.4, P10.1: one that misses a frame freezes, and gets nothing; started
// anew, with any clock, it listens, and gets nothing before it is back.
func TestTogetherWithout(t *testing.T) {
	r := rand.New(rand.NewSource(102))
	c := some()
	for _, offset := range []int{0, 1000, -1 << 30, far} {
		g := newGroup(t, c, true)
		g.pass(t, r, 1<<1)
		for range 2 * c.Nodes {
			g.pass(t, r, 0)
		}
		g.agreed(t, all(c)&^2)
		is(t, g.nodes[1], seen{api.Frozen, 0, -1, g.nodes[1].Offset()})
		g.came = nil
		starts(t, g.nodes[1], offset)
		for g.nodes[1].State() != api.Active {
			if ownerOf(c, g.slot) == 2 {
				runs(t, g.nodes[2], 3, g.slot, fine(put(8, byte(g.slot))))
			}
			g.pass(t, r, 0)
			if g.slot > 9*c.Nodes {
				t.Fatalf("%+v", look(g.nodes[1]))
			}
			waits(t, g.nodes[1], 11, 0)
			waits(t, g.nodes[2], 8, 0)
		}
		for _, d := range g.came {
			if d.Node == 1 {
				t.Errorf("%v", d)
			}
		}
		for range c.Nodes {
			g.pass(t, r, 0)
		}
		g.agreed(t, all(c))
		for ownerOf(c, g.slot) != 2 {
			g.pass(t, r, 0)
		}
		runs(t, g.nodes[2], 3, g.slot, fine(put(8, 77)))
		g.pass(t, r, 0)
		runs(t, g.nodes[1], 1, g.slot, fine(get(11), 77), not(get(11), api.ErrEmpty))
	}
}

// P10.1 to P10.5: nodes that are started in any slots, with any clocks, find
// each other.
func TestTogetherFromNothing(t *testing.T) {
	r := rand.New(rand.NewSource(103))
	for range 200 {
		c := oneOf(r, chapters(), some(), widest(), bare(r.Perm(4+r.Intn(13))...))
		c.Rejoin = 1 + r.Intn(8)
		g := newGroup(t, c, false)
		starts, last := make([]int, c.Nodes), 0
		for id := range starts {
			starts[id] = r.Intn(1 + r.Intn(20*c.Nodes))
			last = max(last, starts[id])
		}
		for g.slot <= last+(c.Rejoin+8)*c.Nodes {
			for id, n := range g.nodes {
				if starts[id] != g.slot {
					continue
				}
				if err := n.Start(oneOf(r, 0, r.Intn(1000), -r.Intn(1<<30), far-1000)); err != api.OK {
					t.Fatal(err)
				}
			}
			g.pass(t, r, 0)
		}
		g.agreed(t, all(c))
	}
}
