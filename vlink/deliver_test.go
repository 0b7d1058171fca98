package vlink_test

import (
	"bytes"
	"slices"
	"testing"

	"rota/api"
	"rota/kern"
	"rota/vlink"
)

// P6.3: the chapter's examples.
func TestDeliverOfTheChapter(t *testing.T) {
	c := chapters()
	p := bytesAt(3, 1, 7, 8)
	delivers(t, c, 2, 0, 9, p, arrival{1, []byte{7, 8}, 9})
	delivers(t, c, 2, 1, 9, p)
	delivers(t, c, 0, 0, 9, p)
	delivers(t, c, 2, 2, 9, p, arrival{2, []byte{7, 8}, 9}) // its own node's
	delivers(t, c, 2, 0, 9, bytesAt(3, 2, 7, 8))
	delivers(t, c, 2, 0, 9, bytesAt(3, 0, 7, 8))
}

// P6.3: links are gone through in order, and of each one its Dests that are
// of the node, in order.
func TestLinksAndDestsInOrder(t *testing.T) {
	c := some()
	p := laidOf2()
	delivers(t, c, 2, 0, 5, p, arrival{1, long, 5}, arrival{5, []byte{9}, 5}, arrival{4, []byte{9}, 5})
	delivers(t, c, 2, 1, 5, p, arrival{3, []byte{9}, 5})
	delivers(t, c, 2, 2, 5, p, arrival{6, []byte{9}, 5})
	delivers(t, c, 2, 3, 5, p, arrival{10, []byte{7, 8}, 5})
	delivers(t, c, 0, 2, 5, p, arrival{8, []byte{7, 8}, 5})
	delivers(t, c, 0, 0, 5, p)
	delivers(t, c, 3, 0, 5, p)
	delivers(t, c, 1, 0, 5, full(), arrival{13, ones(2), 5})
}

// P6.3: links without a message are passed over, those behind them are not.
func TestWithoutMessage(t *testing.T) {
	c := some()
	first := arrival{1, ones(32), 0}
	second := []arrival{{5, ones(1), 0}, {4, ones(1), 0}}
	for b := range 256 {
		p, q := full(), full()
		p[31], q[0] = byte(b), byte(b)
		if b == 1 {
			delivers(t, c, 2, 0, 0, p, first, second[0], second[1])
			continue
		}
		delivers(t, c, 2, 0, 0, p, second...)
		delivers(t, c, 2, 0, 0, q, first)
		delivers(t, c, 2, 3, 0, q, arrival{10, ones(2), 0})
	}
}

// P6.3: whatever slot it is, it is handed on.
func TestAnySlot(t *testing.T) {
	for _, slot := range append([]int{0, 1, 9}, ends...) {
		delivers(t, chapters(), 2, 0, slot, bytesAt(3, 1, 7, 8), arrival{1, []byte{7, 8}, slot})
	}
}

// P6.3: whatever is answered, all are handed, and counted.
func TestAnyAnswer(t *testing.T) {
	c := some()
	for _, answer := range []api.Errno{api.OK, api.ErrNil, api.ErrPort, api.ErrFull, -1, 1 << 40} {
		var ports []int
		n, err := vlink.Deliver(c, 2, 0, 9, full(), func(port int, _ []byte, _ int) api.Errno {
			ports = append(ports, port)
			return answer
		})
		if n != 3 || err != api.OK || !slices.Equal(ports, []int{1, 5, 4}) {
			t.Errorf("%v: %d, %v, %v", answer, n, err, ports)
		}
	}
}

// P6.3: what is handed is by the configuration that was handed in, though who
// is handed to changes its lists.
func TestArriveChangesTheConfiguration(t *testing.T) {
	for at := range 3 {
		c := some()
		var all []arrival
		n, err := vlink.Deliver(c, 2, 0, 9, full(), func(port int, data []byte, slot int) api.Errno {
			if len(all) == at {
				spoil(c)
			}
			all = append(all, arrival{port, data, slot})
			return api.OK
		})
		if n != 3 || err != api.OK || len(all) != 3 {
			t.Fatalf("%d, %v, %v", n, err, all)
		}
		for i, port := range []int{1, 5, 4} {
			if all[i].port != port || !bytes.Equal(all[i].data, ones(some().Ports[port].Size)) {
				t.Errorf("%d: %v", i, all[i])
			}
		}
	}
}

// P6.3: many links of one node.
func TestManyLinksAreDelivered(t *testing.T) {
	c, all := manyLinks()
	l := mustDeliver(t, c, 3, 1, 9, mustPack(t, c, 3, handing(all)))
	if len(l) != 31 {
		t.Fatal(l)
	}
	for i, a := range l {
		if a.port != 2*i || a.slot != 9 || !bytes.Equal(a.data, []byte{byte(100 + i)}) {
			t.Errorf("%d: %v", i, a)
		}
	}
}

// P6.1, P6.3: a kernel's Take is asked, and kernels' Arrive handed to.
func TestKernels(t *testing.T) {
	c := some()
	var kernels []*kern.Kernel
	for node := range c.Nodes {
		k, err := kern.New(c, node)
		if err != api.OK {
			t.Fatal(err)
		}
		kernels = append(kernels, k)
	}
	kernels[2].Run(0, 0, []api.Op{{Kind: api.OpSend, Port: 9, Data: []byte{7, 8}}})
	kernels[2].Run(2, 0, []api.Op{{Kind: api.OpSend, Port: 2, Data: []byte{9}}})
	for _, want := range []payload{bytesAt(0, 1, 9, 1, 7, 8), bytesAt(0, 1, 9)} { // the one of queuing went out
		packs(t, c, 2, kernels[2].Take, want)
	}
	for node, want := range []int{2, 1, 1, 1} {
		n, err := vlink.Deliver(c, 2, node, 4, bytesAt(0, 1, 9, 1, 7, 8), kernels[node].Arrive)
		if n != want || err != api.OK {
			t.Errorf("node %d: %d, %v, not %d", node, n, err, want)
		}
	}
	for port := range c.Ports {
		node := c.Parts[c.Ports[port].Part].Node
		want := 0
		if slices.Contains([]int{2, 3, 4, 5, 6, 10}, port) {
			want = 1
		}
		if n := kernels[node].Waiting(port); n != want {
			t.Errorf("port %d: %d, not %d", port, n, want)
		}
	}
}
