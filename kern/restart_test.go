package kern_test

import (
	"testing"

	"rota/api"
	"rota/kern"
)

// restarts tells of any other answer than OK.
func restarts(t *testing.T, k *kern.Kernel) {
	t.Helper()
	if err := k.Restart(); err != api.OK {
		t.Errorf("restart: %v", err)
	}
}

// fill leaves nothing in a kernel of node 0 of some as New made it.
func fill(t *testing.T, k *kern.Kernel) {
	t.Helper()
	for part := range 2 {
		for addr := range 4 {
			runs(t, k, part, 0, fine(write(addr, 99)))
		}
	}
	runs(t, k, 0, 0, fine(send(0, 1)), fine(send(7, 1, 2)))
	runs(t, k, 1, 0, fine(send(3, 1, 2)), fine(send(3, 1, 2)))
	runs(t, k, 3, 0, fine(send(6, make([]byte, 32)...)))
	for range 2 {
		arrives(t, k, 1, 50, api.OK, 1, 2)
	}
	arrives(t, k, 1, 50, api.ErrFull, 1, 2)
	arrives(t, k, 2, 50, api.OK, 1)
	for part, n := range []int{0: 1, 1: 3, 3: 2} {
		for range n {
			runs(t, k, part, 0, refused(raise, api.ErrRaised))
		}
	}
}

// P5.4: behind a restart all is as New made it, as often as it is done.
func TestRestart(t *testing.T) {
	c := some()
	k := mustNew(t, c, 0)
	restarts(t, k)
	isNew(t, k, c, 0)
	for range 3 {
		fill(t, k)
		isAt(t, k, 0, 1, false)
		isAt(t, k, 1, 3, true)
		isAt(t, k, 3, 2, false)
		waits(t, k, 1, 2)
		waits(t, k, 3, 2)
		restarts(t, k)
		isNew(t, k, c, 0)
	}
	restarts(t, k)
	restarts(t, k)
	fill(t, k)
}

// P5.4: the quota stays, and ports and regions stay whose they are.
func TestRestartKeepsTables(t *testing.T) {
	k := mustNew(t, some(), 0)
	restarts(t, k)
	doesFirst(t, k, 0, 0, []api.Op{send(3, 1, 2), write(4, 1), write(3, 1), read(3)},
		refused(send(3, 1, 2), api.ErrPort), refused(write(4, 1), api.ErrFault), fine(write(3, 1)))
	remembers(t, k, 1, 0, 0, 0, 0)
	runs(t, k, 1, 0, fine(send(3, 1, 2)), fine(write(0, 7)))
	remembers(t, k, 0, 0, 0, 0, 1)
	takes(t, k, 3, 1, 2)
}

// P5.4: what was answered ahead of a restart stays as it was.
func TestRestartLeavesAnswers(t *testing.T) {
	k := mustNew(t, some(), 0)
	fill(t, k)
	m := k.Memory(0)
	results, _ := k.Run(0, 0, []api.Op{read(0)})
	restarts(t, k)
	if len(m) != 4 || m[0] != 99 || m[3] != 99 || results[0].Data[0] != 99 {
		t.Errorf("%v, %v", m, results)
	}
}

// P5.4: one node's restart is not another one's.
func TestRestartOfOne(t *testing.T) {
	c := some()
	k, other := mustNew(t, c, 0), mustNew(t, c, 1)
	runs(t, other, 2, 0, fine(write(255, 9)), fine(send(5, 1, 2)), refused(raise, api.ErrRaised))
	restarts(t, k)
	isAt(t, other, 2, 1, false)
	waits(t, other, 5, 1)
	runs(t, other, 2, 0, fine(read(255), 9))
}

// P5.4: of partitions of other nodes, and such as there are not, nothing is
// told, whatever happens here.
func TestOthersAreNotTold(t *testing.T) {
	k := mustNew(t, some(), 0)
	fill(t, k)
	for _, part := range append([]int{2, 4, 5, 31, 32}, ends...) {
		isAt(t, k, part, 0, false)
		remembers(t, k, part)
	}
	for _, port := range append([]int{4, 5, 8, 63, 64}, ends...) {
		waits(t, k, port, 0)
	}
}

// P5.4: a region's bytes, also of one without any.
func TestMemory(t *testing.T) {
	k := mustNew(t, some(), 0)
	runs(t, k, 0, 0, fine(write(0, 1)), fine(write(3, 4)))
	runs(t, k, 1, 0, fine(write(0, 5)), fine(write(3, 8)))
	remembers(t, k, 0, 1, 0, 0, 4)
	remembers(t, k, 1, 5, 0, 0, 8)
	remembers(t, k, 3)
	k = mustNew(t, some(), 2)
	runs(t, k, 4, 0, fine(write(1, 8)))
	remembers(t, k, 4, 0, 8)
	if m := mustNew(t, some(), 1).Memory(2); len(m) != 256 {
		t.Errorf("%d bytes", len(m))
	}
}
