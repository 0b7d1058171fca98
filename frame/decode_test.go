package frame_test

import (
	"bytes"
	"testing"

	"rota/api"
	"rota/frame"
)

// P3.2: frames of all kinds.
func TestDecode(t *testing.T) {
	for _, f := range samples() {
		decodes(t, "a frame", summed(words(f)), f)
	}
}

// P3.2: bytes of other lengths, the chapter's 74 among them, though their sum
// stands behind them.
func TestDecodeOtherLengths(t *testing.T) {
	b := summed(words(filled(3, 258, 5)))
	for n := range 75 {
		refused(t, "cut short", b[:n], api.ErrFrame)
		refused(t, "cut short ahead", b[75-n:], api.ErrFrame)
		if n != 71 {
			refused(t, "cut short and summed", summed(b[:n]), api.ErrFrame)
		}
	}
	for n := range 90 {
		refused(t, "more behind", append(bytes.Clone(b), make([]byte, n+1)...), api.ErrFrame)
	}
	refused(t, "twice", append(bytes.Clone(b), b...), api.ErrFrame)
	refused(t, "none", nil, api.ErrFrame)
	refused(t, "empty", []byte{}, api.ErrFrame)
	refused(t, "noughts", make([]byte, 75), api.ErrSum)
}

// P3.2, P3.3: an owner that there is not is no frame's, whether the sum is
// right or not; the last one that there is is.
func TestOwnersThatAreNot(t *testing.T) {
	f := filled(3, 258, 5)
	for owner := range 256 {
		f.Owner = owner
		b := summed(words(f))
		wrong := bytes.Clone(b)
		wrong[74] ^= 1
		if owner < 16 {
			decodes(t, "a frame", b, f)
			accepts(t, "a frame", b, owner, f.State, f)
			refused(t, "a wrong sum", wrong, api.ErrSum)
			refusedBy(t, "a wrong sum", wrong, owner, f.State, api.ErrSum)
			continue
		}
		for _, x := range [][]byte{b, wrong} {
			refused(t, "no owner", x, api.ErrFrame)
			refusedBy(t, "no owner", x, owner, f.State, api.ErrFrame)
			refusedBy(t, "no owner", x, owner%16, f.State, api.ErrFrame)
		}
	}
}

// P3.2, P3.3: a slot above 2^31 - 1 is no frame's, whether the sum is right or
// not, and whoever asks.
func TestSlotsThatAreNot(t *testing.T) {
	for _, slot := range []int{1 << 31, 1<<31 + 1, 1<<31 + 258, 3 << 30, 1<<32 - 2, 1<<32 - 1} {
		f := filled(3, slot, 5)
		b := summed(words(f))
		wrong := bytes.Clone(b)
		wrong[71] ^= 128
		for _, x := range [][]byte{b, wrong} {
			refused(t, "no slot", x, api.ErrFrame)
			refusedBy(t, "no slot", x, 3, f.State, api.ErrFrame)
			refusedBy(t, "no slot", x, 3, state(int(int32(uint32(slot))), 5), api.ErrFrame)
			refusedBy(t, "no slot", x, 3, state(slot&(1<<31-1), 5), api.ErrFrame)
		}
	}
	for _, slot := range []int{0, 1<<31 - 1} {
		f := filled(3, slot, 5)
		decodes(t, "the ends", summed(words(f)), f)
		accepts(t, "the ends", summed(words(f)), 3, f.State, f)
	}
}

// P3.2: each byte of the sum must be right, and stand in its place.
func TestDecodeSums(t *testing.T) {
	for _, f := range samples() {
		b := summed(words(f))
		for i := 71; i < 75; i++ {
			x := bytes.Clone(b)
			x[i] += 1 + byte(f.State.Slot)%255
			refused(t, "a byte of the sum", x, api.ErrSum)
			refusedBy(t, "a byte of the sum", x, f.Owner, f.State, api.ErrSum)
		}
		x := append(bytes.Clone(b[:71]), b[74], b[73], b[72], b[71])
		if !bytes.Equal(x, b) {
			refused(t, "the sum turned round", x, api.ErrSum)
			refusedBy(t, "the sum turned round", x, f.Owner, f.State, api.ErrSum)
		}
	}
}

// P3.2: each byte that the sum is of must be as it was: Decode believes the
// state that it reads.
func TestDecodeOfTurned(t *testing.T) {
	b := summed(words(filled(3, 258, 5)))
	for i := range 71 {
		for bit := range 8 {
			x := bytes.Clone(b)
			x[i] ^= 1 << bit
			want := api.ErrSum
			if i == 0 && bit == 7 || i == 6 && bit > 3 {
				want = api.ErrFrame // its slot or its owner is none
			}
			refused(t, "a bit turned", x, want)
		}
	}
	f := filled(3, 258, 5)
	refused(t, "another's sum", summedBy(f, state(259, 5)), api.ErrSum)
	refused(t, "another's sum", summedBy(f, state(258, 4)), api.ErrSum)
}

// P3.5: what is handed in stays as it is, the room behind too; and turning it
// later, or what was answered, turns no frame.
func TestOnlyRead(t *testing.T) {
	f := filled(3, 258, 5)
	for name, call := range map[string]func(b []byte) (api.Frame, api.Errno){
		"Decode": frame.Decode,
		"Accept": func(b []byte) (api.Frame, api.Errno) { return frame.Accept(b, 3, f.State) },
		"Accept by another": func(b []byte) (api.Frame, api.Errno) {
			frame.Accept(b, 4, f.State)
			frame.Accept(b, 3, state(-1, 0xFFFF))
			return f, api.OK
		},
	} {
		whole := append(summed(words(f)), 77, 77, 77, 77)
		was := bytes.Clone(whole)
		got, err := call(whole[:75])
		if !bytes.Equal(whole, was) {
			t.Errorf("%s: the bytes were turned", name)
		}
		clear(whole)
		if err != api.OK || got != f {
			t.Errorf("%s: %v, %v", name, got, err)
		}
		got.Payload[5]++
		if again, err := call(was[:75]); err != api.OK || again != f {
			t.Errorf("%s: another frame: %v, %v", name, again, err)
		}
	}
}
