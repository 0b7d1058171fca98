package cluster_test

import (
	"math/rand"
	"testing"

	"rota/api"
	"rota/cluster"
	"rota/config"
)

// beginning is which nodes are started in which slots, each once.
type beginning struct {
	at   map[int]uint16
	who  uint16
	last int
}

func anyBeginning(r *rand.Rand, c api.Config) beginning {
	b := beginning{at: map[int]uint16{}}
	span := 1 + r.Intn(20*c.Nodes)
	for _, id := range r.Perm(c.Nodes)[:1+r.Intn(c.Nodes)] {
		slot := r.Intn(span)
		b.at[slot] |= 1 << id
		b.who, b.last = b.who|1<<id, max(b.last, slot)
	}
	return b
}

// P0.6: nodes that are started in any slots, with any clocks, in a cluster that
// is off, are all Active within Rejoin and eight rounds of the last start, with
// one vector and one counter, and clocks at most Precision apart.
func TestFromNothing(t *testing.T) {
	r := rand.New(rand.NewSource(6))
	for range 600 {
		c := anyConfig(r)
		k, b := mustNew(t, c, false), anyBeginning(r, c)
		// Whoever begins so near to an end that a misreading of its clock is beyond
		// it can't be followed by that reading: a clock stays where it is then.
		most := far - (c.Drift+c.Reading)*(29+c.Rejoin)
		for k.Slot() < b.last+(c.Rejoin+8)*c.Nodes {
			x := starts(b.at[k.Slot()], anyNumbers(r, c.Nodes, oneOf(r, 0, 1000, most))...)
			x.Drift = anyNumbers(r, c.Nodes, 2*c.Drift+1)
			x.Misread = anyNumbers(r, c.Nodes, 2*c.Reading+1)
			if r.Intn(9) == 0 {
				x.Babble = []api.Send{{Node: ownerOf(c, k.Slot()+1), Bytes: []byte{1}}}
			}
			steps(t, k, x)
		}
		haveFound(t, c, k, b.who)
	}
}

// haveFound tells of some who have not found each other.
func haveFound(t *testing.T, c api.Config, k *cluster.Cluster, who uint16) {
	t.Helper()
	least, most, counter := far, -far, k.Counter(bitsOf(who)[0])
	for _, id := range bitsOf(who) {
		least, most = min(least, k.Offset(id)), max(most, k.Offset(id))
		if k.State(id) != api.Active || k.Vector(id) != who || k.Counter(id) != counter {
			t.Fatalf("node %d: state %d, vector %b, counter %d, not %b, %d", id, k.State(id), k.Vector(id), k.Counter(id), who, counter)
		}
	}
	if most-least > config.Precision(c) {
		t.Fatalf("clocks from %d to %d", least, most)
	}
}
