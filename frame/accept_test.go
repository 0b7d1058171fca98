package frame_test

import (
	"math"
	"math/rand"
	"testing"

	"rota/api"
	"rota/frame"
)

// P3.3, P3.6: what is sent is accepted by its own owner and state, and told by
// Decode.
func TestAcceptOwn(t *testing.T) {
	for _, f := range samples() {
		b := mustEncode(t, f)
		accepts(t, "its own", b, f.Owner, f.State, f)
		decodes(t, "its own", b, f)
	}
}

// P3.3: the chapter's examples.
func TestAcceptExamples(t *testing.T) {
	f := api.Frame{Owner: 3, State: state(258, 5)}
	b := mustEncode(t, f)
	accepts(t, "it", b, 3, state(258, 5), f)
	refusedBy(t, "it", b, 2, state(258, 5), api.ErrFrame)
	refusedBy(t, "it", b, 3, state(259, 5), api.ErrSum)
	refusedBy(t, "74 bytes of it", b[:74], 3, state(258, 5), api.ErrFrame)
	of4 := mustEncode(t, api.Frame{State: state(4, 15)})
	refusedBy(t, "a frame of slot 4", of4, 0, state(5, 15), api.ErrSum)
}

// P3.3, P3.6: no other owner accepts it, not one that is the same in one byte.
func TestAcceptByOtherOwners(t *testing.T) {
	for _, f := range samples() {
		b := mustEncode(t, f)
		others := []int{1 << 32, -1 << 32, math.MaxInt, math.MinInt, f.Owner + 256, f.Owner - 256, f.Owner + 1<<32, -f.Owner - 1, ^f.Owner}
		for owner := -20; owner < 300; owner++ {
			others = append(others, owner)
		}
		for _, owner := range others {
			if owner != f.Owner {
				refusedBy(t, "a frame", b, owner, f.State, api.ErrFrame)
				refusedBy(t, "a frame", b, owner, state(f.State.Slot+1, f.State.Members), api.ErrSum)
			}
		}
	}
}

// P3.3, P3.6: no other state accepts it: a slot more or less, a bit turned, any.
func TestAcceptByOtherStates(t *testing.T) {
	r := rand.New(rand.NewSource(4))
	for _, f := range samples() {
		b := mustEncode(t, f)
		s := f.State
		others := []api.State{state(s.Slot+1, s.Members), state(s.Slot-1, s.Members), state(s.Slot, s.Members+1), state(-s.Slot-1, s.Members), state(-1, s.Members)}
		for i := range 32 {
			others = append(others, state(s.Slot^1<<i, s.Members))
		}
		for i := range 16 {
			others = append(others, state(s.Slot, s.Members^1<<i))
		}
		for range 20 {
			others = append(others, state(int(int32(r.Uint32())), uint16(r.Uint32())))
		}
		for _, other := range others {
			// Sums tell slots apart, and members, though not all states: of
			// these none has the frame's.
			if other != s {
				refusedBy(t, "a frame", b, f.Owner, other, api.ErrSum)
			}
		}
	}
}

// P3.3: a state whose four lowest bytes are the slot's has the frame's sum, but
// is not the frame's.
func TestAcceptBySlotsAbove(t *testing.T) {
	for _, f := range samples() {
		b := mustEncode(t, f)
		for _, by := range []int{1 << 32, -1 << 32, 1 << 40, math.MinInt, 1<<62 - 1<<32} {
			refusedBy(t, "a frame", b, f.Owner, state(f.State.Slot+by, f.State.Members), api.ErrFrame)
		}
	}
}

// P3.3: so has a state that differs from it by the one pattern that sums do
// not tell.
func TestAcceptByStatesOfOneSum(t *testing.T) {
	for _, f := range samples() {
		b := mustEncode(t, f)
		for at := range 16 {
			s := sameSum(f.State, at)
			if string(summedBy(f, s)) != string(b) {
				t.Fatalf("%v and %v have other sums", f.State, s)
			}
			refusedBy(t, "a frame", b, f.Owner, s, api.ErrFrame)
			refusedBy(t, "a frame", b, (f.Owner+1)%16, s, api.ErrFrame)
		}
	}
}

// P3.3: it is the sum by who asks that must be right, not the one of the
// state that stands there.
func TestAcceptSumsByWhoAsks(t *testing.T) {
	for _, f := range samples() {
		for _, s := range []api.State{state(f.State.Slot^1, f.State.Members), state(f.State.Slot, ^f.State.Members), state(-1, 0), state(-258, 7), state(1<<31, 5), state(math.MinInt, 5)} {
			x := summedBy(f, s)
			refusedBy(t, "another's sum", x, f.Owner, s, api.ErrFrame)
			refusedBy(t, "another's sum", x, f.Owner, f.State, api.ErrSum)
			refused(t, "another's sum", x, api.ErrSum)
		}
	}
}

// P3.3: bytes of other lengths, whoever asks.
func TestAcceptOtherLengths(t *testing.T) {
	f := filled(3, 258, 5)
	b := mustEncode(t, f)
	for n := range 200 {
		x := append(append([]byte{}, b...), make([]byte, 200)...)[:n]
		if n != 75 {
			refusedBy(t, "another length", x, 3, f.State, api.ErrFrame)
			refusedBy(t, "another length", x, -1, state(-1, 1), api.ErrFrame)
		}
		if n != 71 {
			refusedBy(t, "another length, summed", summed(x), 3, f.State, api.ErrFrame)
		}
	}
	refusedBy(t, "none", nil, 3, f.State, api.ErrFrame)
	refusedBy(t, "none", nil, 0, api.State{}, api.ErrFrame)
}

// P3.6: what Accept says of what is sent does not hang on its payload.
func TestAcceptWhateverThePayload(t *testing.T) {
	r := rand.New(rand.NewSource(6))
	for _, f := range samples() {
		s := f.State
		states := []api.State{s, state(s.Slot+1, s.Members), state(s.Slot, s.Members^1), state(s.Slot+1<<32, s.Members), sameSum(s, 3), state(-1, 0)}
		for _, owner := range []int{f.Owner, (f.Owner + 1) % 16, -1} {
			for _, s := range states {
				a, at, mask := f, r.Intn(600), r.Uint32()
				r.Read(a.Payload[:])
				_, one := frame.Accept(mustEncode(t, f), owner, s)
				_, other := frame.Accept(mustEncode(t, a), owner, s)
				if one != other {
					t.Errorf("%v, %v by %d, %v: %v, %v", f, a, owner, s, one, other)
				}
				_, one = frame.Accept(frame.Corrupt(mustEncode(t, f), at, mask), owner, s)
				_, other = frame.Accept(frame.Corrupt(mustEncode(t, a), at, mask), owner, s)
				if one != other {
					t.Errorf("turned: %v, %v by %d, %v: %v, %v", f, a, owner, s, one, other)
				}
			}
		}
	}
}
