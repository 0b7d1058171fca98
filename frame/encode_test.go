package frame_test

import (
	"bytes"
	"math"
	"testing"

	"rota/api"
	"rota/frame"
)

// Functions: a frame has 75 bytes.
func TestSize(t *testing.T) {
	if frame.Size != 75 {
		t.Error(frame.Size)
	}
}

// P3.1: the bytes of the chapter's example.
func TestEncodeExample(t *testing.T) {
	want := append([]byte{0, 0, 1, 2, 0, 5, 3}, make([]byte, 64)...)
	want = append(want, 0x1E, 0xB4, 0x27, 0x3D)
	if b := mustEncode(t, api.Frame{Owner: 3, State: state(258, 5)}); !bytes.Equal(b, want) {
		t.Errorf("%x", b)
	}
}

// P3.1: each byte of a frame has a place of its own.
func TestEncodeOrder(t *testing.T) {
	f := api.Frame{Owner: 7, State: state(0x01020304, 0x0506)}
	want := []byte{1, 2, 3, 4, 5, 6, 7}
	for i := range f.Payload {
		f.Payload[i] = byte(8 + i)
		want = append(want, byte(8+i))
	}
	want = append(want, 0xCA, 0x79, 0x0A, 0xDF)
	if b := mustEncode(t, f); !bytes.Equal(b, want) {
		t.Errorf("%x", b)
	}
}

// P3.1: frames of all kinds.
func TestEncodeAll(t *testing.T) {
	for _, f := range samples() {
		if b, want := mustEncode(t, f), summed(words(f)); !bytes.Equal(b, want) {
			t.Errorf("%v: %x, not %x", f, b, want)
		}
	}
}

// P3.1: owners and slots at the ends of what may be sent, and beyond.
func TestEncodeEnds(t *testing.T) {
	owners := map[int]bool{0: true, 1: true, 15: true}
	for _, n := range []int{-1, -16, 16, 17, 255, 256, 259, 1 << 32, 1<<32 + 3, -1 << 32, math.MaxInt, math.MinInt} {
		owners[n] = false
	}
	slots := map[int]bool{0: true, 1: true, math.MaxInt32 - 1: true, math.MaxInt32: true}
	for _, n := range []int{-1, math.MinInt32, math.MaxInt32 + 1, 1<<32 - 1, 1 << 32, 1<<32 + 258, -1 << 32, math.MaxInt, math.MinInt} {
		slots[n] = false
	}
	for owner, mayOwn := range owners {
		for slot, mayBe := range slots {
			f := filled(owner, slot, 5)
			b, err := frame.Encode(f)
			switch {
			case mayOwn && mayBe:
				if err != api.OK || !bytes.Equal(b, summed(words(f))) {
					t.Errorf("owner %d, slot %d: %x, %v", owner, slot, b, err)
				}
			case err != api.ErrArg || len(b) != 0:
				t.Errorf("owner %d, slot %d: %x, %v", owner, slot, b, err)
			}
		}
	}
}

// P3.1: all sets of members may be sent.
func TestEncodeMembers(t *testing.T) {
	for members := range 1 << 16 {
		f := api.Frame{State: state(1, uint16(members))}
		if b := mustEncode(t, f); b[4] != byte(members>>8) || b[5] != byte(members) {
			t.Fatalf("%x: %x", members, b)
		}
	}
}

// P3.5: each answer of Encode is new memory.
func TestEncodeIsNew(t *testing.T) {
	f := filled(3, 258, 5)
	a, b := mustEncode(t, f), mustEncode(t, f)
	whole := a[:cap(a)]
	for i := range whole {
		whole[i] = 99
	}
	if !bytes.Equal(b, summed(words(f))) || !bytes.Equal(mustEncode(t, f), b) {
		t.Error("another answer was turned")
	}
}
