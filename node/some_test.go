package node_test

import (
	"bytes"
	"math"
	"reflect"
	"testing"

	"rota/api"
	"rota/frame"
	"rota/node"
)

// last is the greatest number of a slot by a counter; far is how far an offset
// may be from 0.
const (
	last = math.MaxInt32
	far  = 1 << 40
)

// wild are numbers that are no node's, and of which some are a small one with
// bits above.
var wild = []int{-1, -2, -16, math.MinInt, math.MinInt32, math.MaxInt, math.MaxInt32, 16, 17, 256, 257, 1 << 32, 1<<32 + 1, -1 << 32}

// below are such as are no slot.
var below = []int{-1, -2, -3, -4, -5, -1 << 32, math.MinInt32, math.MinInt, math.MinInt + 1}

// bare is of a node for each owner, without partitions.
func bare(owners ...int) api.Config {
	c := api.Config{Nodes: len(owners), Owners: owners, Drift: 3, Reading: 6, Margin: 90, Bound: 70, Rejoin: 1, Quota: 8}
	for range owners {
		row := make([]int, len(owners))
		for i := range row {
			row[i] = -1
		}
		c.Windows = append(c.Windows, row)
	}
	return c
}

// chapters is the configuration of the chapter's example.
func chapters() api.Config { return bare(0, 1, 2, 3) }

// widest has as many nodes as may be.
func widest() api.Config { return bare(15, 3, 0, 7, 1, 14, 2, 13, 4, 12, 5, 11, 6, 10, 8, 9) }

func source(part, size, depth int) api.Port {
	p := api.Port{Part: part, Kind: api.Sampling, Dir: api.Source, Size: size, Depth: depth}
	if depth > 0 {
		p.Kind = api.Queuing
	}
	return p
}

func queue(part, size, depth int) api.Port {
	return api.Port{Part: part, Kind: api.Queuing, Dir: api.Dest, Size: size, Depth: depth}
}

func sample(part, size, fresh int) api.Port {
	return api.Port{Part: part, Kind: api.Sampling, Dir: api.Dest, Size: size, Fresh: fresh}
}

// some is of five nodes, whose links are neither in the order of their nodes,
// nor of their ports, nor of their places. Partitions 0 and 2 are node 0's, 1
// is node 1's, 3 is node 2's; nodes 3 and 4 have none. Links 1 and 2 are node
// 0's, and 1 goes to its own port 2, too; link 0 is node 1's, link 3 node 2's.
func some() api.Config {
	c := bare(2, 0, 4, 1, 3)
	c.Parts = []api.Part{{Node: 0, From: 0, To: 8}, {Node: 1, From: 0, To: 8}, {Node: 0, From: 8, To: 16}, {Node: 2, From: 0, To: 0}}
	c.Windows[0] = []int{0, 2, 0, -1, 2}
	c.Windows[1] = []int{1, 1, 1, 1, 1}
	c.Ports = []api.Port{
		source(0, 2, 3), // of link 1
		queue(1, 2, 2),
		queue(2, 2, 2),
		source(1, 1, 0), // of link 0
		sample(0, 1, 3),
		sample(3, 1, 9),
		source(0, 3, 0), // of link 2
		sample(1, 3, 5),
		source(3, 1, 8), // of link 3
		queue(0, 1, 1),
		queue(2, 1, 8),
		queue(1, 1, 8),
		source(0, 1, 2), // of none
	}
	c.Links = []api.Link{
		{Source: 3, Dests: []int{5, 4}, Offset: 7},
		{Source: 0, Dests: []int{2, 1}, Offset: 40},
		{Source: 6, Dests: []int{7}, Offset: 0},
		{Source: 8, Dests: []int{11, 10, 9}, Offset: 62},
	}
	return c
}

// several have an owner's turn in another order each, and other numbers of
// nodes.
func several() []api.Config { return []api.Config{chapters(), some(), widest()} }

func ownerOf(c api.Config, slot int) int { return c.Owners[slot%c.Nodes] }

// turnOf is the first slot of a node, from one on.
func turnOf(c api.Config, id, from int) int {
	for ownerOf(c, from) != id {
		from++
	}
	return from
}

// all is the bits of all nodes.
func all(c api.Config) uint16 { return uint16(1<<c.Nodes - 1) }

type payload = [api.Payload]byte

// with is p, in which a message is laid from one byte on.
func with(p payload, from int, message ...byte) payload {
	p[from] = 1
	copy(p[from+1:], message)
	return p
}

// sent is a frame's bytes.
func sent(t *testing.T, f api.Frame) []byte {
	t.Helper()
	b, err := frame.Encode(f)
	if err != api.OK {
		t.Fatal(err)
	}
	return b
}

// says is what a slot's owner sends, if these are its counter, its vector and
// its payload.
func says(t *testing.T, c api.Config, slot int, members uint16, p payload) []byte {
	t.Helper()
	return sent(t, api.Frame{Owner: ownerOf(c, slot), State: api.State{Slot: slot, Members: members}, Payload: p})
}

// Operations.

func put(port int, data ...byte) api.Op { return api.Op{Kind: api.OpSend, Port: port, Data: data} }

func get(port int) api.Op { return api.Op{Kind: api.OpRecv, Port: port} }

func write(addr int, b byte) api.Op { return api.Op{Kind: api.OpWrite, Addr: addr, Byte: b} }

func read(addr int) api.Op { return api.Op{Kind: api.OpRead, Addr: addr} }

var raise = api.Op{Kind: api.OpRaise}

// mustNew ends the test if there is no node.
func mustNew(t *testing.T, c api.Config, id int) *node.Node {
	t.Helper()
	n, err := node.New(c, id)
	if err != api.OK || n == nil {
		t.Fatalf("%v, %v", n, err)
	}
	return n
}

func joined(t *testing.T, c api.Config, id, slot int) *node.Node {
	t.Helper()
	n := mustNew(t, c, id)
	joins(t, n, slot)
	return n
}

func started(t *testing.T, c api.Config, id, offset int) *node.Node {
	t.Helper()
	n := mustNew(t, c, id)
	starts(t, n, offset)
	return n
}

// following is one that follows from a slot of another node on, by which its
// clock is at 0.
func following(t *testing.T, c api.Config, id, slot int, vector uint16) *node.Node {
	t.Helper()
	n := started(t, c, id, 0)
	hearsNone(t, n, slot, says(t, c, slot, vector, payload{}), 0)
	is(t, n, seen{api.Listen, vector, slot, 0})
	return n
}

// frozen is one that took its own turn for another's.
func frozen(t *testing.T, c api.Config, id int) *node.Node {
	t.Helper()
	n := joined(t, c, id, turnOf(c, id, 0)+1)
	sendsNone(t, n, 0)
	is(t, n, seen{state: api.Frozen, counter: -1})
	return n
}

// inAllStates are nodes of one number in each state that is on.
func inAllStates(t *testing.T, c api.Config, id int) map[string]*node.Node {
	t.Helper()
	other := turnOf(c, (id+1)%c.Nodes, 0)
	return map[string]*node.Node{
		"active":    joined(t, c, id, other),
		"listening": started(t, c, id, 0),
		"following": following(t, c, id, other, all(c)),
		"frozen":    frozen(t, c, id),
	}
}

// seen is what can be seen of a node.
type seen struct {
	state   int
	vector  uint16
	counter int
	offset  int
}

func look(n *node.Node) seen { return seen{n.State(), n.Vector(), n.Counter(), n.Offset()} }

// Each of these does one thing, and tells of any other answer than the one
// that is wanted.

func is(t *testing.T, n *node.Node, want seen) {
	t.Helper()
	if s := look(n); s != want {
		t.Errorf("%+v, not %+v", s, want)
	}
}

func starts(t *testing.T, n *node.Node, offset int) {
	t.Helper()
	if err := n.Start(offset); err != api.OK {
		t.Errorf("start %d: %v", offset, err)
	}
	is(t, n, seen{api.Listen, 0, -1, offset})
}

func joins(t *testing.T, n *node.Node, slot int) {
	t.Helper()
	if err := n.Join(slot); err != api.OK {
		t.Errorf("join %d: %v", slot, err)
	}
	if n.State() != api.Active || n.Counter() != slot {
		t.Errorf("joined %d: %+v", slot, look(n))
	}
}

// done is what an operation is wanted to come to.
type done struct {
	op   api.Op
	err  api.Errno
	data []byte
}

func fine(op api.Op, data ...byte) done { return done{op, api.OK, data} }

func not(op api.Op, err api.Errno) done { return done{op, err, nil} }

func runs(t *testing.T, n *node.Node, part, slot int, want ...done) {
	t.Helper()
	var ops []api.Op
	for _, d := range want {
		ops = append(ops, d.op)
	}
	results, count := n.Window(part, slot, ops)
	if count != len(want) || len(results) != count {
		t.Errorf("partition %d in %d: %d done, %v", part, slot, count, results)
		return
	}
	for i, r := range results {
		if w := want[i]; r.Slot != slot || r.Err != w.err || !bytes.Equal(r.Data, w.data) {
			t.Errorf("partition %d in %d: %v: %v, not %v %v", part, slot, w.op, r, w.err, w.data)
		}
	}
}

func runsNone(t *testing.T, n *node.Node, part, slot int, ops ...api.Op) {
	t.Helper()
	if results, count := n.Window(part, slot, ops); len(results) != 0 || count != 0 {
		t.Errorf("partition %d in %d: %v, %d, not nothing", part, slot, results, count)
	}
}

// sends wants a frame of this owner and state, and these deliveries.
func sends(t *testing.T, n *node.Node, slot int, f api.Frame, want ...api.Delivery) {
	t.Helper()
	b, l, ok := n.Send(slot)
	if !ok || !bytes.Equal(b, sent(t, f)) {
		t.Errorf("send in %d: %v, %v, not %v", slot, b, ok, f)
	}
	isSame(t, l, want)
}

func sendsNone(t *testing.T, n *node.Node, slot int) {
	t.Helper()
	if b, l, ok := n.Send(slot); ok || len(b) != 0 || len(l) != 0 {
		t.Errorf("send in %d: %v, %v, %v, not nothing", slot, b, l, ok)
	}
}

// hears wants bytes to bring these deliveries.
func hears(t *testing.T, n *node.Node, slot int, b []byte, reading int, want ...api.Delivery) {
	t.Helper()
	isSame(t, n.Hear(slot, b, false, reading), want)
}

func hearsNone(t *testing.T, n *node.Node, slot int, b []byte, reading int) {
	t.Helper()
	hears(t, n, slot, b, reading)
}

func hearsSilence(t *testing.T, n *node.Node, slot, reading int) {
	t.Helper()
	isSame(t, n.Hear(slot, nil, true, reading), nil)
}

func ends(t *testing.T, n *node.Node, slot, want int) {
	t.Helper()
	if by, err := n.End(slot); by != want || err != api.OK {
		t.Errorf("end of %d: %d, %v, not %d", slot, by, err, want)
	}
}

func waits(t *testing.T, n *node.Node, port, want int) {
	t.Helper()
	if w := n.Waiting(port); w != want {
		t.Errorf("port %d: %d wait, not %d", port, w, want)
	}
}

// come is a delivery.
func come(slot, id, port, link int, data ...byte) api.Delivery {
	return api.Delivery{Slot: slot, Node: id, Port: port, Link: link, Data: data}
}

func isSame(t *testing.T, got, want []api.Delivery) {
	t.Helper()
	if len(got) != len(want) || len(got) > 0 && !reflect.DeepEqual(got, want) {
		t.Errorf("deliveries %v, not %v", got, want)
	}
}
