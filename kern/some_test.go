package kern_test

import (
	"bytes"
	"math"
	"testing"

	"rota/api"
	"rota/kern"
)

// ends are numbers at the ends of int, and such as are small ones with bits
// above.
var ends = []int{-1, -2, -256, -1 << 32, math.MinInt, math.MinInt32, math.MaxInt, math.MaxInt32, 1 << 32, 1<<32 + 1, 256, 257}

// some is of four nodes. Of node 0 are partitions 0, 1 and 3, of which 3 has
// no memory; of node 1 partition 2, which has all of it; of node 2 partition 4,
// at its end; of node 3 none.
func some() api.Config {
	c := api.Config{Nodes: 4, Owners: []int{0, 1, 2, 3}, Margin: 60, Bound: 60, Rejoin: 1, Quota: 3}
	c.Parts = []api.Part{
		{Node: 0, From: 0, To: 4},
		{Node: 0, From: 4, To: 8},
		{Node: 1, From: 0, To: 256},
		{Node: 0, From: 8, To: 8},
		{Node: 2, From: 254, To: 256},
	}
	for range c.Nodes {
		c.Windows = append(c.Windows, []int{-1, -1, -1, -1})
	}
	c.Windows[0][1] = 3
	c.Ports = []api.Port{
		{Part: 0, Kind: api.Sampling, Dir: api.Source, Size: 1},
		{Part: 0, Kind: api.Queuing, Dir: api.Dest, Size: 2, Depth: 2},
		{Part: 1, Kind: api.Sampling, Dir: api.Dest, Size: 1, Fresh: 3},
		{Part: 1, Kind: api.Queuing, Dir: api.Source, Size: 2, Depth: 2},
		{Part: 2, Kind: api.Sampling, Dir: api.Dest, Size: 1, Fresh: 3},
		{Part: 2, Kind: api.Queuing, Dir: api.Source, Size: 2, Depth: 2},
		{Part: 3, Kind: api.Queuing, Dir: api.Source, Size: 32, Depth: 8},
		{Part: 0, Kind: api.Queuing, Dir: api.Source, Size: 2, Depth: 1},
	}
	c.Links = []api.Link{{Source: 0, Dests: []int{4}, Offset: 0}, {Source: 5, Dests: []int{1}, Offset: 10}}
	return c
}

// roomier is some with so great a quota that whole runs fit.
func roomier() api.Config {
	c := some()
	c.Quota = api.MaxQuota
	return c
}

// nodeOf is the node of a port's partition.
func nodeOf(c api.Config, port int) int { return c.Parts[c.Ports[port].Part].Node }

// mustNew ends the test if there is no kernel.
func mustNew(t *testing.T, c api.Config, node int) *kern.Kernel {
	t.Helper()
	k, err := kern.New(c, node)
	if err != api.OK || k == nil {
		t.Fatalf("node %d: %v, %v", node, k, err)
	}
	return k
}

// Operations.

func read(addr int) api.Op { return api.Op{Kind: api.OpRead, Addr: addr} }

func write(addr int, b byte) api.Op { return api.Op{Kind: api.OpWrite, Addr: addr, Byte: b} }

func send(port int, data ...byte) api.Op { return api.Op{Kind: api.OpSend, Port: port, Data: data} }

func receive(port int) api.Op { return api.Op{Kind: api.OpRecv, Port: port} }

func kind(k int) api.Op { return api.Op{Kind: k} }

var (
	raise = kind(api.OpRaise)
	rest  = kind(api.OpYield)
)

// done is what an operation is wanted to come to.
type done struct {
	op   api.Op
	err  api.Errno
	data []byte
}

func fine(op api.Op, data ...byte) done { return done{op, api.OK, data} }

func refused(op api.Op, err api.Errno) done { return done{op, err, nil} }

// runs runs operations of which all are wanted to be done, and tells of any
// other answer than the ones that are wanted.
func runs(t *testing.T, k *kern.Kernel, part, slot int, all ...done) {
	t.Helper()
	var ops []api.Op
	for _, d := range all {
		ops = append(ops, d.op)
	}
	doesFirst(t, k, part, slot, ops, all...)
}

// doesFirst runs operations of which just some are wanted to be done.
func doesFirst(t *testing.T, k *kern.Kernel, part, slot int, ops []api.Op, want ...done) {
	t.Helper()
	results, n := k.Run(part, slot, ops)
	if n != len(want) || len(results) != len(want) {
		t.Errorf("partition %d in %d: %d done, %d results, not %d", part, slot, n, len(results), len(want))
		return
	}
	for i, r := range results {
		w := want[i]
		if r.Slot != slot || r.Err != w.err || !bytes.Equal(r.Data, w.data) {
			t.Errorf("partition %d in %d: %v: %v, not %v %v", part, slot, w.op, r, w.err, w.data)
		}
	}
}

// Each of these tells of any other answer than the one that is wanted.

func takes(t *testing.T, k *kern.Kernel, port int, want ...byte) {
	t.Helper()
	if data, ok := k.Take(port); !ok || !bytes.Equal(data, want) {
		t.Errorf("take of %d: %v, %v, not %v", port, data, ok, want)
	}
}

func takesNone(t *testing.T, k *kern.Kernel, port int) {
	t.Helper()
	if data, ok := k.Take(port); ok || len(data) != 0 {
		t.Errorf("take of %d: %v, %v, not nothing", port, data, ok)
	}
}

func arrives(t *testing.T, k *kern.Kernel, port, slot int, want api.Errno, data ...byte) {
	t.Helper()
	if err := k.Arrive(port, data, slot); err != want {
		t.Errorf("arrive %v at %d in %d: %v, not %v", data, port, slot, err, want)
	}
}

func isAt(t *testing.T, k *kern.Kernel, part, faults int, stopped bool) {
	t.Helper()
	if n, s := k.Faults(part), k.Stopped(part); n != faults || s != stopped {
		t.Errorf("partition %d: %d faults, stopped %v, not %d, %v", part, n, s, faults, stopped)
	}
}

func remembers(t *testing.T, k *kern.Kernel, part int, want ...byte) {
	t.Helper()
	if m := k.Memory(part); !bytes.Equal(m, want) {
		t.Errorf("partition %d: memory %v, not %v", part, m, want)
	}
}

func waits(t *testing.T, k *kern.Kernel, port, want int) {
	t.Helper()
	if n := k.Waiting(port); n != want {
		t.Errorf("port %d: %d wait, not %d", port, n, want)
	}
}

// isNew tells of anything in a kernel of some that is not as New makes it.
func isNew(t *testing.T, k *kern.Kernel, c api.Config, node int) {
	t.Helper()
	for n, p := range c.Parts {
		isAt(t, k, n, 0, false)
		if p.Node == node {
			remembers(t, k, n, make([]byte, p.To-p.From)...)
		} else {
			remembers(t, k, n)
		}
	}
	for n, p := range c.Ports {
		waits(t, k, n, 0)
		takesNone(t, k, n)
		if nodeOf(c, n) == node && p.Dir == api.Dest {
			runs(t, k, p.Part, 0, refused(receive(n), api.ErrEmpty))
		}
	}
}
