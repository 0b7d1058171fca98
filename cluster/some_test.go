package cluster_test

import (
	"bytes"
	"math"
	"reflect"
	"testing"

	"rota/api"
	"rota/cluster"
	"rota/frame"
)

// far is how far an offset may be from 0.
const far = 1 << 40

// wild are numbers that are no node's and no partition's, and of which some
// are a small one with bits above.
var wild = []int{-1, -2, -16, math.MinInt, math.MinInt32, math.MaxInt, math.MaxInt32, 32, 33, 64, 256, 257, 1 << 32, 1<<32 + 1, -1 << 32}

// bare is of a node for each owner, without partitions.
func bare(owners ...int) api.Config {
	c := api.Config{Nodes: len(owners), Owners: owners, Drift: 3, Reading: 6, Margin: 90, Bound: 70, Rejoin: 1, Quota: 8}
	for range owners {
		row := make([]int, len(owners))
		for i := range row {
			row[i] = -1
		}
		c.Windows = append(c.Windows, row)
	}
	return c
}

// chapters is the configuration of the chapter's example.
func chapters() api.Config {
	c := bare(0, 1, 2, 3)
	c.Parts = []api.Part{{Node: 0, From: 0, To: 4}}
	c.Windows[0] = []int{0, 0, 0, 0}
	return c
}

// widest has as many nodes as may be.
func widest() api.Config { return bare(15, 3, 0, 7, 1, 14, 2, 13, 4, 12, 5, 11, 6, 10, 8, 9) }

func source(part, size, depth int) api.Port {
	p := api.Port{Part: part, Kind: api.Sampling, Dir: api.Source, Size: size, Depth: depth}
	if depth > 0 {
		p.Kind = api.Queuing
	}
	return p
}

func queue(part, size, depth int) api.Port {
	return api.Port{Part: part, Kind: api.Queuing, Dir: api.Dest, Size: size, Depth: depth}
}

func sample(part, size, fresh int) api.Port {
	return api.Port{Part: part, Kind: api.Sampling, Dir: api.Dest, Size: size, Fresh: fresh}
}

// some is of five nodes. Partitions 0 and 2 are node 0's, 1 is node 1's, 3 is
// node 2's, 4 is node 4's; node 3 has none. Link 0 is node 1's, and goes to
// nodes 2 and 0; link 1 is node 0's, and goes to node 0 itself, to node 1, and
// to node 4.
func some() api.Config {
	c := bare(2, 0, 4, 1, 3)
	c.Parts = []api.Part{{Node: 0, From: 0, To: 8}, {Node: 1, From: 0, To: 8}, {Node: 0, From: 8, To: 16}, {Node: 2, From: 0, To: 0}, {Node: 4, From: 9, To: 256}}
	c.Windows[0] = []int{0, 2, 0, -1, 2}
	c.Windows[1] = []int{1, 1, 1, 1, 1}
	c.Windows[2] = []int{-1, 3, -1, 3, -1}
	c.Windows[4] = []int{-1, -1, -1, -1, 4}
	c.Ports = []api.Port{
		source(0, 2, 3), // of link 1
		queue(1, 2, 2),
		queue(2, 2, 2),
		source(1, 1, 0), // of link 0
		sample(0, 1, 3),
		sample(3, 1, 9),
		queue(4, 2, 8),
	}
	c.Links = []api.Link{
		{Source: 3, Dests: []int{5, 4}, Offset: 7},
		{Source: 0, Dests: []int{2, 1, 6}, Offset: 40},
	}
	return c
}

// several have an owner's turn in another order each, and other numbers of
// nodes.
func several() []api.Config { return []api.Config{chapters(), some(), widest()} }

func ownerOf(c api.Config, slot int) int { return c.Owners[slot%c.Nodes] }

// turnOf is the first slot of a node, from one on.
func turnOf(c api.Config, id, from int) int {
	for ownerOf(c, from) != id {
		from++
	}
	return from
}

// all is the bits of all nodes.
func all(c api.Config) uint16 { return uint16(1<<c.Nodes - 1) }

type payload = [api.Payload]byte

// with is p, in which a message is laid from one byte on.
func with(p payload, from int, message ...byte) payload {
	p[from] = 1
	copy(p[from+1:], message)
	return p
}

// says is what a slot's owner sends, if these are its counter, its vector and
// its payload.
func says(t *testing.T, c api.Config, slot int, members uint16, p payload) []byte {
	t.Helper()
	b, err := frame.Encode(api.Frame{Owner: ownerOf(c, slot), State: api.State{Slot: slot, Members: members}, Payload: p})
	if err != api.OK {
		t.Fatal(err)
	}
	return b
}

// Operations.

func put(port int, data ...byte) api.Op { return api.Op{Kind: api.OpSend, Port: port, Data: data} }

func get(port int) api.Op { return api.Op{Kind: api.OpRecv, Port: port} }

func write(addr int, b byte) api.Op { return api.Op{Kind: api.OpWrite, Addr: addr, Byte: b} }

func read(addr int) api.Op { return api.Op{Kind: api.OpRead, Addr: addr} }

var (
	raise = api.Op{Kind: api.OpRaise}
	yield = api.Op{Kind: api.OpYield}
)

// Choices.

// starts starts some nodes anew, each by its offset.
func starts(who uint16, offsets ...int) api.Choice {
	return api.Choice{Restart: who, Offsets: offsets}
}

// deaf lets some nodes hear silence.
func deaf(who uint16) api.Choice {
	var x api.Choice
	for id := range api.MaxNodes {
		x.Copies = append(x.Copies, api.Copy{Kind: int(who >> id & 1)})
	}
	return x
}

// mustNew ends the test if there is no cluster.
func mustNew(t *testing.T, c api.Config, hot bool, streams ...[]api.Op) *cluster.Cluster {
	t.Helper()
	k, err := cluster.New(c, streams, hot)
	if err != api.OK || k == nil {
		t.Fatalf("%v, %v", k, err)
	}
	return k
}

// seen is what can be seen of a node.
type seen struct {
	state   int
	vector  uint16
	counter int
	offset  int
}

func look(k *cluster.Cluster, id int) seen {
	return seen{k.State(id), k.Vector(id), k.Counter(id), k.Offset(id)}
}

// Each of these does one thing, and tells of any other answer than the one
// that is wanted.

func is(t *testing.T, k *cluster.Cluster, id int, want seen) {
	t.Helper()
	if s := look(k, id); s != want {
		t.Errorf("slot %d: node %d: %+v, not %+v", k.Slot(), id, s, want)
	}
}

func steps(t *testing.T, k *cluster.Cluster, l ...api.Choice) {
	t.Helper()
	for _, x := range l {
		slot := k.Slot()
		if err := k.Step(x); err != api.OK || k.Slot() != slot+1 {
			t.Fatalf("slot %d: %v, and then slot %d", slot, err, k.Slot())
		}
	}
}

// idles goes on to a slot.
func idles(t *testing.T, k *cluster.Cluster, to int) {
	t.Helper()
	for k.Slot() < to {
		steps(t, k, api.Choice{})
	}
}

// did is a result.
func did(slot int, err api.Errno, data ...byte) api.Result {
	return api.Result{Slot: slot, Err: err, Data: data}
}

// traces wants these to be all results of a partition, each of an operation.
func traces(t *testing.T, k *cluster.Cluster, part int, want ...api.Result) {
	t.Helper()
	l := k.Trace(part)
	if !isSameList(l, want, isSameResult) || k.Used(part) != len(want) {
		t.Errorf("partition %d: %v, %d used, not %v", part, l, k.Used(part), want)
	}
}

// come is a delivery.
func come(slot, id, port, link int, data ...byte) api.Delivery {
	return api.Delivery{Slot: slot, Node: id, Port: port, Link: link, Data: data}
}

// comes wants these to be all deliveries.
func comes(t *testing.T, k *cluster.Cluster, want ...api.Delivery) {
	t.Helper()
	if l := k.Deliveries(); !isSameList(l, want, isSameDelivery) {
		t.Errorf("deliveries %v, not %v", l, want)
	}
}

func isSameResult(a, b api.Result) bool {
	return a.Slot == b.Slot && a.Err == b.Err && bytes.Equal(a.Data, b.Data)
}

func isSameDelivery(a, b api.Delivery) bool { return reflect.DeepEqual(a, b) }

func isSameList[T any](a, b []T, isSame func(a, b T) bool) bool {
	for i := range a {
		if i >= len(b) || !isSame(a[i], b[i]) {
			return false
		}
	}
	return len(a) == len(b)
}
