package frame_test

import (
	"bytes"
	"encoding/binary"
	"hash/crc32"
	"math"
	"math/rand"
	"testing"

	"rota/api"
	"rota/frame"
)

func state(slot int, members uint16) api.State {
	return api.State{Slot: slot, Members: members}
}

// filled is a frame with a payload in which no two bytes that follow one
// another are the same.
func filled(owner, slot int, members uint16) api.Frame {
	f := api.Frame{Owner: owner, State: state(slot, members)}
	for i := range f.Payload {
		f.Payload[i] = byte(7*i + slot + 1)
	}
	return f
}

// words are a frame's bytes without a sum, as the chapter words them.
func words(f api.Frame) []byte {
	b := binary.BigEndian.AppendUint32(nil, uint32(f.State.Slot))
	b = binary.BigEndian.AppendUint16(b, f.State.Members)
	b = append(b, byte(f.Owner))
	return append(b, f.Payload[:]...)
}

// summed is b with its sum behind.
func summed(b []byte) []byte {
	return binary.LittleEndian.AppendUint32(bytes.Clone(b), crc32.ChecksumIEEE(b))
}

// summedBy is a frame's bytes with the sum of who believes that the state is s.
func summedBy(f api.Frame, s api.State) []byte {
	b := words(f)
	copy(b, words(api.Frame{State: s})[:6])
	return append(words(f), summed(b)[71:]...)
}

// samples are frames that may be sent: at the ends, and some hundred others.
func samples() []api.Frame {
	l := []api.Frame{{}, {Owner: 3, State: state(258, 5)}, filled(15, math.MaxInt32, 0xFFFF), filled(0, 0, 0)}
	for owner := range api.MaxNodes {
		l = append(l, filled(owner, 1<<owner, 1<<owner), filled(owner, math.MaxInt32-owner, ^uint16(0)<<owner))
	}
	r := rand.New(rand.NewSource(3))
	for range 200 {
		f := api.Frame{Owner: r.Intn(api.MaxNodes), State: state(int(r.Int31()), uint16(r.Uint32()))}
		r.Read(f.Payload[:])
		l = append(l, f)
	}
	return l
}

// mustEncode ends the test if there are no bytes.
func mustEncode(t *testing.T, f api.Frame) []byte {
	t.Helper()
	b, err := frame.Encode(f)
	if err != api.OK || len(b) != 75 {
		t.Fatalf("%v: %d bytes, %v", f, len(b), err)
	}
	return b
}

// decodes tells of anything but this frame.
func decodes(t *testing.T, what string, b []byte, want api.Frame) {
	t.Helper()
	if f, err := frame.Decode(b); err != api.OK || f != want {
		t.Errorf("%s: %v, %v, not %v", what, f, err, want)
	}
}

// refused tells of anything but that error of Decode, without a frame.
func refused(t *testing.T, what string, b []byte, want api.Errno) {
	t.Helper()
	if f, err := frame.Decode(b); err != want || f != (api.Frame{}) {
		t.Errorf("%s: %v, %v, not %v", what, f, err, want)
	}
}

// accepts tells of anything but this frame.
func accepts(t *testing.T, what string, b []byte, owner int, s api.State, want api.Frame) {
	t.Helper()
	if f, err := frame.Accept(b, owner, s); err != api.OK || f != want {
		t.Errorf("%s by %d, %v: %v, %v, not %v", what, owner, s, f, err, want)
	}
}

// refusedBy tells of anything but that error of Accept, without a frame.
func refusedBy(t *testing.T, what string, b []byte, owner int, s api.State, want api.Errno) {
	t.Helper()
	if f, err := frame.Accept(b, owner, s); err != want || f != (api.Frame{}) {
		t.Errorf("%s by %d, %v: %v, %v, not %v", what, owner, s, f, err, want)
	}
}

// sameSum is another state whose bytes leave the sum of a frame as it is: of
// 33 bits that follow one another just one pattern does so. At is where in the
// state's bytes it stands: from 0 to 15.
func sameSum(s api.State, at int) api.State {
	b := binary.BigEndian.AppendUint32(nil, uint32(s.Slot))
	b = binary.BigEndian.AppendUint16(b, s.Members)
	for i := range 33 {
		if uint64(0xEDB88320<<1|1)>>i&1 == 1 {
			b[(at+i)/8] ^= 1 << ((at + i) % 8)
		}
	}
	return state(int(binary.BigEndian.Uint32(b)), binary.BigEndian.Uint16(b[4:]))
}
