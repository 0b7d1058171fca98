package cluster_test

import (
	"math/rand"
	"testing"

	"rota/api"
	"rota/cluster"
)

// isAlike tells of anything that can be seen of two clusters, and is not the
// same.
func isAlike(t *testing.T, c api.Config, k, l *cluster.Cluster) {
	t.Helper()
	for id := range c.Nodes {
		is(t, k, id, look(l, id))
	}
	for part := range c.Parts {
		if !isSameList(k.Trace(part), l.Trace(part), isSameResult) || k.Used(part) != l.Used(part) || k.Faults(part) != l.Faults(part) {
			t.Errorf("partition %d: %v, not %v", part, k.Trace(part), l.Trace(part))
		}
	}
	comes(t, k, l.Deliveries()...)
	if k.Slot() != l.Slot() || k.Blocked() != l.Blocked() {
		t.Errorf("slot %d, not %d; %d blocked, not %d", k.Slot(), l.Slot(), k.Blocked(), l.Blocked())
	}
}

// P11.2: Run is a slot for each choice, in order.
func TestRun(t *testing.T) {
	r := rand.New(rand.NewSource(11))
	for range 20 {
		c := anyConfig(r)
		streams := anyStreams(r, c, 99)
		k, l := mustNew(t, c, true, streams...), mustNew(t, c, true, streams...)
		for _, n := range []int{1, 0, 7, 2, 50, 0} {
			var choices []api.Choice
			for range n {
				choices = append(choices, anyChoice(r, c, k, 3))
				steps(t, k, choices[len(choices)-1])
			}
			if slot, err := l.Run(choices); slot != k.Slot() || err != api.OK {
				t.Fatalf("%d, %v, not %d", slot, err, k.Slot())
			}
			isAlike(t, c, l, k)
		}
	}
}

// P11.3: of no such node, and of no such partition, as of none; what is blocked
// is counted.
func TestOfNoSuchOne(t *testing.T) {
	for _, c := range several() {
		var streams [][]api.Op
		for range c.Parts {
			streams = append(streams, []api.Op{raise, raise})
		}
		k := mustNew(t, c, true, streams...)
		idles(t, k, c.Nodes+1)
		for _, n := range append([]int{c.Nodes, c.Nodes + 1}, wild...) {
			is(t, k, n, seen{0, 0, -1, 0})
		}
		for _, n := range append([]int{len(c.Parts), len(c.Parts) + 1}, wild...) {
			traces(t, k, n)
			if k.Faults(n) != 0 {
				t.Errorf("partition %d: %d faults", n, k.Faults(n))
			}
		}
		for part := range c.Parts {
			if k.Faults(part) != 2 || k.Used(part) != 2 || len(k.Trace(part)) != 2 {
				t.Errorf("partition %d: %d faults, %d used, %v", part, k.Faults(part), k.Used(part), k.Trace(part))
			}
		}
	}
}

// P11.2: whatever a choice says, a slot passes.
func TestAnyChoice(t *testing.T) {
	c := some()
	var copies []api.Copy
	var babble []api.Send
	for _, n := range wild {
		copies = append(copies, api.Copy{Kind: api.CopyBurst, At: n, Mask: 0xffffffff}, api.Copy{Kind: n})
		babble = append(babble, api.Send{Node: n}, api.Send{Node: n, Bytes: make([]byte, 999)})
	}
	k := mustNew(t, c, true, []api.Op{{Kind: -1}, {Kind: 1, Addr: -1}, {Kind: 3, Port: -1}, {Kind: 4, Port: 1 << 40}, {Kind: 3}})
	for shift := range wild {
		turned := append(wild[shift:len(wild):len(wild)], wild[:shift]...)
		steps(t, k, api.Choice{Restart: uint16(1) << shift, Drift: turned, Misread: turned, Offsets: turned, Copies: copies[shift:], Babble: babble, Forged: make([]byte, shift*40)})
	}
	if k.Blocked() != uint64(len(wild)*len(babble)) {
		t.Errorf("%d blocked", k.Blocked())
	}
	traces(t, k, 0, did(0, api.ErrOp), did(0, api.ErrFault), did(0, api.ErrPort), did(0, api.ErrPort), did(0, api.ErrSize))
}
