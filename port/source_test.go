package port_test

import (
	"math"
	"testing"

	"rota/api"
)

// P4.2: the chapter's example, and that room comes back.
func TestSendQueuing(t *testing.T) {
	b := mustNew(t, queuing(api.Source, 1, 2))
	sends(t, b, api.OK, 5)
	sends(t, b, api.OK, 6)
	sends(t, b, api.ErrFull, 7)
	has(t, b, 2)
	takes(t, b, 5)
	takes(t, b, 6)
	takesNone(t, b)
	sends(t, b, api.OK, 8)
	takes(t, b, 8)
	takesNone(t, b)
	takesNone(t, b)
}

// P4.2, P4.6: what is sent is taken in order, each message once, at all
// depths, however full the box is while it goes on.
func TestTakeInOrder(t *testing.T) {
	for depth := 1; depth <= api.MaxDepth; depth++ {
		for full := 1; full <= depth; full++ {
			b := mustNew(t, queuing(api.Source, 2, depth))
			sent, taken := byte(0), byte(0)
			for range 40 {
				for int(sent-taken) < full {
					sends(t, b, api.OK, sent, 100)
					sent++
				}
				has(t, b, full)
				takes(t, b, taken, 100)
				taken++
				has(t, b, full-1)
			}
		}
	}
}

// P4.2: a sampling port has the last message alone, and it stays.
func TestSendSampling(t *testing.T) {
	b := mustNew(t, sampling(api.Source, 2, 0))
	takesNone(t, b)
	for i := range byte(20) {
		sends(t, b, api.OK, i, i+1)
		has(t, b, 1)
		for range i % 3 {
			takes(t, b, i, i+1)
			has(t, b, 1)
		}
	}
	takes(t, b, 19, 20)
}

// P4.2: a message has just as many bytes as its port has Size, ahead of
// whether the box is full; none else changes anything.
func TestSendOtherSizes(t *testing.T) {
	for size := 1; size <= api.MaxSize; size++ {
		q, s := mustNew(t, queuing(api.Source, size, 1)), mustNew(t, sampling(api.Source, size, 0))
		message := make([]byte, size)
		message[size-1] = 9
		for range 2 {
			for n := range 40 {
				if n != size {
					sends(t, q, api.ErrSize, make([]byte, n)...)
					sends(t, s, api.ErrSize, make([]byte, n)...)
				}
			}
			sends(t, q, api.ErrSize, make([]byte, size+256)...)
			sends(t, s, api.ErrSize, make([]byte, 1<<16+size)...)
			if err := q.Send(nil); err != api.ErrSize {
				t.Errorf("nil: %v", err)
			}
			q.Send(message) // OK at first, then full
			sends(t, s, api.OK, message...)
		}
		takes(t, q, message...)
		takesNone(t, q)
		takes(t, s, message...)
	}
}

// P4.2: what comes to a destination is neither sent nor taken, ahead of what
// is wrong besides; and what goes out of a source has not come.
func TestOtherDirections(t *testing.T) {
	for _, p := range ports() {
		b := mustNew(t, p)
		for _, data := range [][]byte{nil, {1}, {1, 2}, {1, 2, 3}} {
			if p.Dir == api.Dest {
				sends(t, b, api.ErrPort, data...)
				takesNone(t, b)
				continue
			}
			for _, slot := range []int{0, -1, math.MinInt, math.MaxInt} {
				arrives(t, b, api.ErrPort, slot, data...)
				receivesNone(t, b, slot, api.ErrPort)
			}
		}
		has(t, b, 0)
	}
}

// P4.2, P4.3: so it is where there are messages, which stay.
func TestOtherDirectionsOfFull(t *testing.T) {
	for _, p := range ports() {
		b := mustNew(t, p)
		if p.Dir == api.Dest {
			arrives(t, b, api.OK, 4, 1, 2)
			sends(t, b, api.ErrPort, 3, 4)
			takesNone(t, b)
			has(t, b, 1)
			receives(t, b, 4, 1, 2)
			continue
		}
		sends(t, b, api.OK, 1, 2)
		arrives(t, b, api.ErrPort, 4, 3, 4)
		receivesNone(t, b, 4, api.ErrPort)
		has(t, b, 1)
		takes(t, b, 1, 2)
	}
}

// P4.2, P4.3: a source that was full tells nobody of a loss, and goes on.
func TestFullSourceLosesNothing(t *testing.T) {
	b := mustNew(t, queuing(api.Source, 1, 1))
	sends(t, b, api.OK, 1)
	for range 3 {
		sends(t, b, api.ErrFull, 2)
	}
	takes(t, b, 1)
	takesNone(t, b)
	sends(t, b, api.OK, 3)
	takes(t, b, 3)
}
