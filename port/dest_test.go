package port_test

import (
	"math"
	"testing"

	"rota/api"
)

// P4.3: the chapter's example.
func TestArriveQueuing(t *testing.T) {
	b := mustNew(t, queuing(api.Dest, 1, 1))
	arrives(t, b, api.OK, 0, 5)
	arrives(t, b, api.ErrFull, 0, 6)
	has(t, b, 1)
	receivesNone(t, b, 0, api.ErrLost)
	has(t, b, 1)
	receives(t, b, 0, 5)
	receivesNone(t, b, 0, api.ErrEmpty)
}

// P4.3: the chapter's examples.
func TestArriveSampling(t *testing.T) {
	b := mustNew(t, sampling(api.Dest, 2, 3))
	receivesNone(t, b, 0, api.ErrEmpty)
	arrives(t, b, api.OK, 4, 1, 2)
	receives(t, b, 6, 1, 2)
	receivesNone(t, b, 7, api.ErrStale)
	receives(t, b, 3, 1, 2)
	sends(t, b, api.ErrPort, 1, 2)
	arrives(t, b, api.ErrSize, 0, 1)
	arrives(t, b, api.ErrArg, -1, 1, 2)
	takesNone(t, b)
}

// P4.3, P4.6: what comes is received in order, each message once, at all
// depths, whatever the slots are.
func TestReceiveInOrder(t *testing.T) {
	slots := []int{0, math.MaxInt, 7, 1, math.MaxInt32}
	for depth := 1; depth <= api.MaxDepth; depth++ {
		for full := 1; full <= depth; full++ {
			b := mustNew(t, queuing(api.Dest, 2, depth))
			came, read := byte(0), byte(0)
			for i := range 40 {
				for int(came-read) < full {
					arrives(t, b, api.OK, slots[i%5], came, 100)
					came++
				}
				has(t, b, full)
				receives(t, b, slots[i%3], read, 100)
				read++
			}
		}
	}
}

// P4.3: however many were lost, one is told of it once, ahead of all that
// wait, and ahead of there being none; then it may come again.
func TestLost(t *testing.T) {
	for depth := 1; depth <= api.MaxDepth; depth++ {
		for lost := 1; lost < 4; lost++ {
			b := mustNew(t, queuing(api.Dest, 1, depth))
			for range 2 {
				for i := range depth {
					arrives(t, b, api.OK, i, byte(i))
				}
				for i := range lost {
					arrives(t, b, api.ErrFull, i, 99)
				}
				receivesNone(t, b, 0, api.ErrLost)
				has(t, b, depth)
				receives(t, b, 0, 0)
				arrives(t, b, api.OK, 0, 77)
				arrives(t, b, api.ErrFull, 0, 78)
				receivesNone(t, b, 0, api.ErrLost)
				for i := 1; i < depth; i++ {
					receives(t, b, 0, byte(i))
				}
				receives(t, b, 0, 77)
				receivesNone(t, b, 0, api.ErrEmpty)
			}
		}
	}
}

// P4.3, P4.5: what is refused for another reason loses nothing, nor does it
// tell.
func TestLostByFullAlone(t *testing.T) {
	b := mustNew(t, queuing(api.Dest, 2, 1))
	arrives(t, b, api.OK, 0, 1, 2)
	arrives(t, b, api.ErrSize, 0, 1)
	arrives(t, b, api.ErrSize, 0, 1, 2, 3)
	arrives(t, b, api.ErrArg, -1, 1, 2)
	arrives(t, b, api.ErrArg, math.MinInt, 1)
	receives(t, b, 0, 1, 2)
	arrives(t, b, api.OK, 0, 1, 2)
	arrives(t, b, api.ErrFull, 0, 3, 4)
	receivesNone(t, b, -1, api.ErrArg)
	takesNone(t, b)
	has(t, b, 1)
	receivesNone(t, b, 0, api.ErrLost)
	receivesNone(t, b, math.MinInt, api.ErrArg)
	receives(t, b, math.MaxInt, 1, 2)
}

// P4.3: errors come in their order: the port, the slot, the size, the room.
func TestArriveErrors(t *testing.T) {
	for _, p := range ports() {
		if p.Dir != api.Dest {
			continue
		}
		b := mustNew(t, p)
		for range 2 {
			for _, slot := range []int{-1, -2, math.MinInt, math.MinInt32, -1 << 32} {
				for _, data := range [][]byte{nil, {}, {1}, {1, 2}, {1, 2, 3}} {
					arrives(t, b, api.ErrArg, slot, data...)
				}
				receivesNone(t, b, slot, api.ErrArg)
			}
			for n := range 300 {
				if n != 2 {
					arrives(t, b, api.ErrSize, n, make([]byte, n)...)
				}
			}
			for b.Len() < max(p.Depth, 1) {
				arrives(t, b, api.OK, 0, 8, 9)
			}
		}
		receives(t, b, 0, 8, 9)
	}
}

// P4.3: a sampling port's message is stale from the slot on that is Fresh
// above its own; in slots ahead of its own it is not. It stays, stale too.
func TestStale(t *testing.T) {
	for _, fresh := range []int{1, 2, 3, 7, 65535} {
		for _, came := range []int{0, 1, 5, 1 << 31, math.MaxInt - 65535, math.MaxInt - 1, math.MaxInt} {
			b := mustNew(t, sampling(api.Dest, 1, fresh))
			arrives(t, b, api.OK, came, 4)
			for _, slot := range []int{0, 1, came / 2, came - fresh, came - 1, came, came + 1, came + fresh - 1, came + fresh, came + fresh + 1, math.MaxInt} {
				switch {
				case slot < 0: // it went round
				case slot > came && slot-came >= fresh:
					receivesNone(t, b, slot, api.ErrStale)
				default:
					receives(t, b, slot, 4)
				}
				has(t, b, 1)
			}
			receives(t, b, came, 4)
		}
	}
}

// P4.3: the last message is the one that came last, whatever its slot, and it
// is by its own slot that it is fresh.
func TestLastMessageThatCame(t *testing.T) {
	b := mustNew(t, sampling(api.Dest, 1, 3))
	arrives(t, b, api.OK, 10, 1)
	receivesNone(t, b, 13, api.ErrStale)
	arrives(t, b, api.OK, 11, 2)
	receives(t, b, 13, 2)
	arrives(t, b, api.OK, 4, 3)
	receivesNone(t, b, 7, api.ErrStale)
	receives(t, b, 6, 3)
	arrives(t, b, api.OK, 4, 4)
	receives(t, b, 6, 4)
	arrives(t, b, api.ErrSize, 100)
	arrives(t, b, api.ErrArg, -5, 9)
	receives(t, b, 6, 4)
	receivesNone(t, b, 100, api.ErrStale)
	has(t, b, 1)
}
