package kern_test

import (
	"math"
	"testing"

	"rota/api"
)

// P5.2: the chapter's examples, one after the other.
func TestRunExamples(t *testing.T) {
	k := mustNew(t, some(), 0)
	doesFirst(t, k, 0, 0, []api.Op{write(3, 9), read(3), read(4), read(0)},
		fine(write(3, 9)), fine(read(3), 9), refused(read(4), api.ErrFault))
	doesFirst(t, k, 1, 0, []api.Op{read(0), rest, read(0)}, fine(read(0), 0), fine(rest))
	runs(t, k, 1, 0, refused(send(0, 5), api.ErrPort), refused(raise, api.ErrRaised), refused(raise, api.ErrRaised))
	isAt(t, k, 1, 2, false)
	runs(t, k, 1, 0, refused(raise, api.ErrRaised), refused(read(0), api.ErrStopped))
	isAt(t, k, 1, 3, true)
	runs(t, k, 0, 0, fine(send(0, 5)), refused(kind(9), api.ErrOp))
	takes(t, k, 0, 5)
	doesFirst(t, k, 2, 0, []api.Op{rest})
}

// P5.2: nothing of a partition that is none of this node's, or in a slot below
// 0; and nothing comes of it.
func TestRunNothing(t *testing.T) {
	c := some()
	for node := range c.Nodes {
		k := mustNew(t, c, node)
		for _, part := range append([]int{0, 1, 2, 3, 4, 5, 31, 32}, ends...) {
			isOurs := part >= 0 && part < len(c.Parts) && c.Parts[part].Node == node
			for _, slot := range append([]int{0, 7}, ends...) {
				if isOurs && slot >= 0 {
					continue
				}
				doesFirst(t, k, part, slot, []api.Op{write(0, 9), send(0, 1), raise})
				doesFirst(t, k, part, slot, nil)
			}
		}
		isNew(t, k, c, node)
	}
}

// P5.2: each result has the slot, however great.
func TestRunSlot(t *testing.T) {
	k := mustNew(t, some(), 0)
	for _, slot := range []int{0, 1, 77, 1 << 32, math.MaxInt, 3} {
		runs(t, k, 1, slot, fine(write(0, 1)), refused(kind(0), api.ErrOp), fine(read(0), 1))
		runs(t, k, 1, slot, refused(receive(2), api.ErrEmpty), fine(rest))
	}
}

// P5.2: no more are done than Quota, of all quotas; those that were not done
// did nothing.
func TestRunQuota(t *testing.T) {
	for quota := 1; quota <= api.MaxQuota; quota++ {
		c := some()
		c.Quota = quota
		k := mustNew(t, c, 1)
		for n := range 40 {
			var ops []api.Op
			var want []done
			for i := range n {
				ops = append(ops, write(i, byte(n+1)))
				if i < quota {
					want = append(want, fine(ops[i]))
				}
			}
			doesFirst(t, k, 2, 0, ops, want...)
			if n > quota && k.Memory(2)[quota] != 0 {
				t.Errorf("quota %d: operation %d of %d was done", quota, quota, n)
			}
		}
	}
}

// P5.2: up to the first one that yields, with it, wherever that stands, but not
// behind the quota.
func TestRunYield(t *testing.T) {
	for at := range 20 {
		k := mustNew(t, roomier(), 1)
		var ops []api.Op
		var want []done
		for i := range 20 {
			ops = append(ops, write(i, 1))
			if i == at {
				ops[i] = rest
			}
			if i <= at && i < api.MaxQuota {
				want = append(want, fine(ops[i]))
			}
		}
		doesFirst(t, k, 2, 5, ops, want...)
		sum := 0
		for _, b := range k.Memory(2) {
			sum += int(b)
		}
		if sum != min(at, api.MaxQuota) {
			t.Errorf("yields at %d: %d were done", at, sum)
		}
		// The next window goes on as if there had been no other.
		runs(t, k, 2, 6, fine(read(0), byte(min(at, 1))), fine(rest))
	}
}

// P5.2: a partition that is stopped yields, too: what follows is not answered.
func TestRunYieldOfStopped(t *testing.T) {
	k := mustNew(t, some(), 0)
	runs(t, k, 0, 0, refused(raise, api.ErrRaised), refused(raise, api.ErrRaised), refused(raise, api.ErrRaised))
	doesFirst(t, k, 0, 1, []api.Op{read(0), rest, read(0)}, refused(read(0), api.ErrStopped), refused(rest, api.ErrStopped))
	doesFirst(t, k, 0, 1, []api.Op{raise, raise, raise, raise},
		refused(raise, api.ErrStopped), refused(raise, api.ErrStopped), refused(raise, api.ErrStopped))
}

// P5.2: no operations.
func TestRunNoOperations(t *testing.T) {
	k := mustNew(t, some(), 0)
	doesFirst(t, k, 0, 0, nil)
	doesFirst(t, k, 0, 0, []api.Op{})
	isNew(t, k, some(), 0)
}

// P5.2: a region's bytes are its own, from 0 to one less than it has, on both
// sides; of one without bytes there are none.
func TestRunMemory(t *testing.T) {
	c := some()
	for part, p := range c.Parts {
		size := p.To - p.From
		for addr := -2; addr < 260; addr++ {
			k := mustNew(t, c, p.Node)
			if addr >= 0 && addr < size {
				runs(t, k, part, 0, fine(read(addr), 0), fine(write(addr, 200)), fine(read(addr), 200))
				want := make([]byte, size)
				want[addr] = 200
				remembers(t, k, part, want...)
				runs(t, k, part, 1, fine(write(addr, 0)), fine(read(addr), 0))
				isAt(t, k, part, 0, false)
				continue
			}
			runs(t, k, part, 0, refused(read(addr), api.ErrFault), refused(write(addr, 7), api.ErrFault))
			isAt(t, k, part, 2, false)
			remembers(t, k, part, make([]byte, size)...)
		}
	}
}

// P5.2: addresses at the ends of int.
func TestRunFarAddresses(t *testing.T) {
	for _, addr := range ends {
		if addr == 256 {
			continue // of partition 2 it is one beyond, and tried above
		}
		k := mustNew(t, some(), 1)
		runs(t, k, 2, 0, refused(write(addr, 7), api.ErrFault), refused(read(addr), api.ErrFault), refused(write(addr, 7), api.ErrFault))
		isAt(t, k, 2, 3, true)
		remembers(t, k, 2, make([]byte, 256)...)
	}
}

// P5.2: all bytes are kept as they are.
func TestRunAllBytes(t *testing.T) {
	k := mustNew(t, some(), 1)
	for i := range 256 {
		runs(t, k, 2, i, fine(write(i, byte(i))), fine(read(i), byte(i)))
	}
	for i, b := range k.Memory(2) {
		if b != byte(i) {
			t.Errorf("%d: %d", i, b)
		}
	}
}

// P5.2: sending and receiving by ports of one's own: what the boxes answer.
func TestRunPorts(t *testing.T) {
	k := mustNew(t, roomier(), 0)
	runs(t, k, 0, 4,
		fine(send(0, 5)), fine(send(0, 6)), refused(send(0), api.ErrSize), refused(send(0, 1, 2), api.ErrSize),
		fine(send(7, 1, 2)), refused(send(7, 3, 4), api.ErrFull), refused(send(7, 3), api.ErrSize),
		refused(send(1, 1, 2), api.ErrPort), refused(receive(0), api.ErrPort), refused(receive(7), api.ErrPort),
		refused(receive(1), api.ErrEmpty))
	isAt(t, k, 0, 0, false)
	takes(t, k, 0, 6)
	takes(t, k, 7, 1, 2)
	takesNone(t, k, 7)
	arrives(t, k, 1, 0, api.OK, 1, 2)
	arrives(t, k, 1, 0, api.OK, 3, 4)
	arrives(t, k, 1, 0, api.ErrFull, 5, 6)
	runs(t, k, 0, 5, refused(receive(1), api.ErrLost), fine(receive(1), 1, 2), fine(receive(1), 3, 4), refused(receive(1), api.ErrEmpty))
	arrives(t, k, 2, 10, api.OK, 9)
	runs(t, k, 1, 12, fine(receive(2), 9), fine(receive(2), 9))
	runs(t, k, 1, 13, refused(receive(2), api.ErrStale))
	runs(t, k, 1, 0, fine(receive(2), 9))
	runs(t, k, 3, 0, fine(send(6, make([]byte, 32)...)), refused(send(6, make([]byte, 31)...), api.ErrSize))
	waits(t, k, 6, 1)
}

// P5.2: ports of other partitions, of this node and of others, and such as
// there are not, are none; nothing comes of it, and it is no fault.
func TestRunOthersPorts(t *testing.T) {
	c := roomier()
	for node := range c.Nodes {
		k := mustNew(t, c, node)
		for part, p := range c.Parts {
			if p.Node != node {
				continue
			}
			for _, port := range append([]int{0, 1, 2, 3, 4, 5, 6, 7, 8, 63, 64}, ends...) {
				if port >= 0 && port < len(c.Ports) && c.Ports[port].Part == part {
					continue
				}
				for _, size := range []int{0, 1, 2, 32} {
					runs(t, k, part, 0, refused(send(port, make([]byte, size)...), api.ErrPort))
				}
				runs(t, k, part, 0, refused(receive(port), api.ErrPort))
			}
		}
		isNew(t, k, c, node)
	}
}

// P5.2: what others have got is not received, nor lost.
func TestRunOthersMessages(t *testing.T) {
	k := mustNew(t, some(), 0)
	arrives(t, k, 2, 0, api.OK, 5)
	arrives(t, k, 1, 0, api.OK, 5, 6)
	runs(t, k, 0, 0, refused(receive(2), api.ErrPort), refused(receive(3), api.ErrPort))
	runs(t, k, 1, 0, refused(receive(1), api.ErrPort), fine(receive(2), 5))
	runs(t, k, 0, 0, fine(receive(1), 5, 6))
}

// P5.2: kinds that there are not; they are no faults. What other fields hold
// is not looked at.
func TestRunKinds(t *testing.T) {
	k := mustNew(t, some(), 0)
	for _, n := range append([]int{0, 7, 8, 9, 100, 1<<32 + 2, 1<<32 + 5, 1<<32 + 6}, ends...) {
		runs(t, k, 0, 3, refused(api.Op{Kind: n, Addr: 0, Byte: 9, Port: 0, Data: []byte{1}}, api.ErrOp), fine(read(0), 0))
	}
	isNew(t, k, some(), 0)
	for _, n := range ends {
		runs(t, k, 0, 3,
			fine(api.Op{Kind: api.OpRead, Addr: 0, Byte: 9, Port: n, Data: []byte{1}}, 0),
			fine(api.Op{Kind: api.OpWrite, Addr: 1, Byte: 9, Port: n, Data: []byte{1}}),
			fine(api.Op{Kind: api.OpSend, Addr: n, Byte: 9, Port: 0, Data: []byte{1}}))
		runs(t, k, 0, 3,
			refused(api.Op{Kind: api.OpRecv, Addr: n, Byte: 9, Port: 1, Data: []byte{1}}, api.ErrEmpty),
			fine(api.Op{Kind: api.OpYield, Addr: n, Byte: 9, Port: n, Data: []byte{1}}))
	}
	isAt(t, k, 0, 0, false)
	runs(t, k, 0, 3, refused(api.Op{Kind: api.OpRaise, Addr: 1, Byte: 9, Port: 1, Data: []byte{1}}, api.ErrRaised))
	isAt(t, k, 0, 1, false)
}

// Words, P5.2: reads, writes and raises count alike, over all windows, and
// with the third one it is stopped: that one answers its own error.
func TestRunFaults(t *testing.T) {
	faults := []done{refused(read(4), api.ErrFault), refused(write(-1, 0), api.ErrFault), refused(raise, api.ErrRaised)}
	for i := range 27 {
		for _, whole := range []bool{false, true} {
			k := mustNew(t, roomier(), 0)
			all := []done{faults[i%3], faults[i/3%3], faults[i/9]}
			behind := []done{
				refused(read(0), api.ErrStopped), refused(write(0, 1), api.ErrStopped), refused(send(0, 1), api.ErrStopped),
				refused(receive(1), api.ErrStopped), refused(raise, api.ErrStopped), refused(kind(9), api.ErrStopped),
				refused(send(2, 1), api.ErrStopped), refused(read(4), api.ErrStopped), refused(rest, api.ErrStopped),
			}
			if whole {
				runs(t, k, 0, 0, append(all, behind...)...)
			} else {
				for n, d := range all {
					isAt(t, k, 0, n, false)
					runs(t, k, 0, n, fine(read(0), 0), refused(send(3, 1), api.ErrPort), d)
				}
				runs(t, k, 0, 3, behind...)
			}
			isAt(t, k, 0, 3, true)
			remembers(t, k, 0, 0, 0, 0, 0)
			takesNone(t, k, 0)
			for _, other := range []int{1, 3} {
				isAt(t, k, other, 0, false)
				runs(t, k, other, 4, fine(rest))
			}
		}
	}
}

// P5.2: other errors are no faults, however many.
func TestRunNoFaults(t *testing.T) {
	k := mustNew(t, roomier(), 0)
	for slot := range 20 {
		runs(t, k, 0, slot, refused(kind(-1), api.ErrOp), refused(send(0), api.ErrSize), refused(send(3, 1, 2), api.ErrPort), refused(receive(1), api.ErrEmpty))
		k.Run(0, slot, []api.Op{send(7, 1, 2)})
		runs(t, k, 0, slot, refused(send(7, 1, 2), api.ErrFull))
	}
	isAt(t, k, 0, 0, false)
}
