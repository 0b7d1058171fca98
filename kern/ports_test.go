package kern_test

import (
	"math"
	"testing"

	"rota/api"
)

// P5.3: what goes out: of queuing ports each once, in order; of sampling ports
// the last one, as often as it is asked for.
func TestTake(t *testing.T) {
	k := mustNew(t, some(), 0)
	runs(t, k, 1, 0, fine(send(3, 1, 2)), fine(send(3, 3, 4)), refused(send(3, 5, 6), api.ErrFull))
	takes(t, k, 3, 1, 2)
	takes(t, k, 3, 3, 4)
	takesNone(t, k, 3)
	runs(t, k, 0, 0, fine(send(0, 8)), fine(send(0, 9)))
	takes(t, k, 0, 9)
	takes(t, k, 0, 9)
}

// P5.3: nothing of ports of other nodes, of such as there are not, and of
// those to which messages come.
func TestTakeNothing(t *testing.T) {
	c := some()
	for node := range c.Nodes {
		k := mustNew(t, c, node)
		for n, p := range c.Ports {
			if nodeOf(c, n) == node && p.Dir == api.Dest {
				arrives(t, k, n, 0, api.OK, make([]byte, p.Size)...)
				takesNone(t, k, n)
				waits(t, k, n, 1)
			} else if nodeOf(c, n) == node {
				runs(t, k, p.Part, 0, fine(send(n, make([]byte, p.Size)...)))
			} else {
				takesNone(t, k, n)
			}
		}
		for _, n := range append([]int{8, 9, 63, 64}, ends...) {
			takesNone(t, k, n)
			waits(t, k, n, 0)
		}
	}
}

// P5.3: what comes: ErrPort ahead of all, then what the box answers.
func TestArrive(t *testing.T) {
	c := some()
	for node := range c.Nodes {
		k := mustNew(t, c, node)
		for n, p := range c.Ports {
			want := api.OK
			data := make([]byte, p.Size)
			if nodeOf(c, n) != node || p.Dir != api.Dest {
				want = api.ErrPort
			}
			for _, slot := range []int{0, 5, math.MaxInt} {
				arrives(t, k, n, slot, want, data...)
				k.Run(p.Part, slot, []api.Op{receive(n)})
			}
			if want == api.OK {
				arrives(t, k, n, -1, api.ErrArg, data...)
				arrives(t, k, n, math.MinInt, api.ErrArg)
				arrives(t, k, n, 0, api.ErrSize)
				arrives(t, k, n, 0, api.ErrSize, make([]byte, 33)...)
			} else {
				arrives(t, k, n, -1, api.ErrPort)
				arrives(t, k, n, 0, api.ErrPort)
			}
		}
		for _, n := range append([]int{8, 9, 63, 64}, ends...) {
			arrives(t, k, n, 0, api.ErrPort, 1)
			arrives(t, k, n, -1, api.ErrPort)
		}
	}
}

// P5.3: it is received by its partition, in order, and fresh by its slot.
func TestArriveIsReceived(t *testing.T) {
	k := mustNew(t, some(), 0)
	arrives(t, k, 1, 3, api.OK, 1, 2)
	arrives(t, k, 1, 1, api.OK, 3, 4)
	arrives(t, k, 1, 2, api.ErrFull, 5, 6)
	arrives(t, k, 2, 100, api.OK, 1)
	arrives(t, k, 2, 4, api.OK, 2)
	runs(t, k, 0, 0, refused(receive(1), api.ErrLost), fine(receive(1), 1, 2), fine(receive(1), 3, 4))
	runs(t, k, 1, 6, fine(receive(2), 2))
	runs(t, k, 1, 7, refused(receive(2), api.ErrStale))
}

// P5.3: of a partition that is stopped, too.
func TestPortsOfStopped(t *testing.T) {
	k := mustNew(t, some(), 0)
	runs(t, k, 0, 0, fine(send(7, 1, 2)), fine(send(0, 3)), refused(raise, api.ErrRaised))
	runs(t, k, 0, 0, refused(raise, api.ErrRaised), refused(raise, api.ErrRaised), refused(send(0, 4), api.ErrStopped))
	isAt(t, k, 0, 3, true)
	arrives(t, k, 1, 0, api.OK, 1, 2)
	arrives(t, k, 1, 0, api.ErrSize, 1)
	arrives(t, k, 1, 0, api.OK, 3, 4)
	arrives(t, k, 1, 0, api.ErrFull, 5, 6)
	waits(t, k, 1, 2)
	waits(t, k, 7, 1)
	runs(t, k, 0, 0, refused(receive(1), api.ErrStopped))
	waits(t, k, 1, 2)
	takes(t, k, 7, 1, 2)
	takesNone(t, k, 7)
	takes(t, k, 0, 3)
	takes(t, k, 0, 3)
}

// P5.4: how many wait.
func TestWaiting(t *testing.T) {
	k := mustNew(t, some(), 0)
	for i := range 4 {
		waits(t, k, 3, min(i, 2))
		waits(t, k, 1, min(i, 2))
		waits(t, k, 2, min(i, 1))
		waits(t, k, 0, min(i, 1))
		k.Run(1, 0, []api.Op{send(3, 1, 2)})
		k.Run(0, 0, []api.Op{send(0, 1)})
		k.Arrive(1, []byte{1, 2}, 0)
		k.Arrive(2, []byte{1}, 0)
	}
	k.Take(3)
	k.Take(0)
	waits(t, k, 3, 1)
	waits(t, k, 0, 1)
	k.Run(0, 0, []api.Op{receive(1), receive(1)})
	k.Run(1, 0, []api.Op{receive(2)})
	waits(t, k, 1, 1)
	waits(t, k, 2, 1)
}
