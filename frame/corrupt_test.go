package frame_test

import (
	"bytes"
	"math"
	"math/rand"
	"testing"

	"rota/api"
	"rota/frame"
)

// turned is what Corrupt must answer, told bit by bit.
func turned(b []byte, at int, mask uint32) []byte {
	x := bytes.Clone(b)
	for bit := range 8 * len(b) {
		if at <= bit && bit <= at+31 && mask>>(bit-at)&1 == 1 {
			x[bit/8] ^= 1 << (bit % 8)
		}
	}
	return x
}

// masks are the ends, single bits, and others.
func masks() []uint32 {
	l := []uint32{0, 3, 17, 1<<32 - 1, 1<<31 | 1, 0xAAAAAAAA, 0x55555555, 0xEDB88320, 0x12345678}
	for i := range 32 {
		l = append(l, 1<<i)
	}
	return l
}

// P3.4: the chapter's examples.
func TestCorruptExamples(t *testing.T) {
	if b := frame.Corrupt([]byte{0, 0}, 4, 17); !bytes.Equal(b, []byte{16, 1}) {
		t.Errorf("%v", b)
	}
	if b := frame.Corrupt([]byte{0, 0}, -1, 3); !bytes.Equal(b, []byte{1, 0}) {
		t.Errorf("%v", b)
	}
}

// P3.4: bytes of all lengths up to nine, from places ahead of them to places
// behind them.
func TestCorruptAll(t *testing.T) {
	for size := range 10 {
		b := words(filled(3, 258, 5))[:size]
		for at := -80; at < 8*size+80; at++ {
			for _, mask := range masks() {
				if x, want := frame.Corrupt(b, at, mask), turned(b, at, mask); !bytes.Equal(x, want) {
					t.Fatalf("%v at %d by %08x: %v, not %v", b, at, mask, x, want)
				}
			}
		}
	}
}

// P3.4: a single bit of a mask turns just one bit, and all bits all of them.
func TestCorruptBits(t *testing.T) {
	for i := range 32 {
		b := frame.Corrupt(make([]byte, 4), 0, 1<<i)
		want := make([]byte, 4)
		want[i/8] = 1 << (i % 8)
		if !bytes.Equal(b, want) {
			t.Errorf("bit %d: %v", i, b)
		}
		b = frame.Corrupt(make([]byte, 75), 100+i, 1<<32-1)
		if n := ones(b); n != 32 {
			t.Errorf("from %d on: %d bits", 100+i, n)
		}
	}
}

func ones(b []byte) int {
	n := 0
	for _, c := range b {
		for ; c != 0; c &= c - 1 {
			n++
		}
	}
	return n
}

// P3.4: at is any number: from places that are far away nothing is turned.
func TestCorruptFarAway(t *testing.T) {
	b := mustEncode(t, filled(3, 258, 5))
	for _, at := range []int{math.MinInt, math.MaxInt, math.MinInt32, math.MaxInt32, 1 << 32, -1 << 32, 1<<35 + 8, -1 << 60, 1 << 60, 1<<61 + 4, 1 << 62, 600, -32} {
		for i := range 40 {
			for _, x := range []int{at + i, at - i} {
				if -32 < x && x < 600 {
					continue
				}
				for _, mask := range masks() {
					if y := frame.Corrupt(b, x, mask); !bytes.Equal(y, b) {
						t.Fatalf("at %d by %08x: turned", x, mask)
					}
				}
			}
		}
	}
	for i := 1; i < 32; i++ {
		if y := frame.Corrupt(b, -i, 1<<i); y[0] != b[0]^1 || !bytes.Equal(y[1:], b[1:]) {
			t.Errorf("at %d: %v", -i, y)
		}
		if y := frame.Corrupt(b, 599-i, 1<<i); y[74] != b[74]^128 || !bytes.Equal(y[:74], b[:74]) {
			t.Errorf("at %d: %v", 599-i, y)
		}
	}
}

// P3.4: no bytes have no bits.
func TestCorruptNothing(t *testing.T) {
	for _, b := range [][]byte{nil, {}, []byte("abc")[:0]} {
		for _, at := range []int{-40, -1, 0, 1, 40} {
			if x := frame.Corrupt(b, at, 1<<32-1); len(x) != 0 {
				t.Errorf("%v at %d: %v", b, at, x)
			}
		}
	}
}

// P3.4: what is turned twice is as it was.
func TestCorruptTwice(t *testing.T) {
	r := rand.New(rand.NewSource(7))
	b := mustEncode(t, filled(3, 258, 5))
	for range 1000 {
		at, mask := r.Intn(700)-50, r.Uint32()
		if x := frame.Corrupt(frame.Corrupt(b, at, mask), at, mask); !bytes.Equal(x, b) {
			t.Fatalf("at %d by %08x: %v", at, mask, x)
		}
	}
}

// P3.5: what is handed in stays as it is, the room behind too, and what is
// answered is new memory, even where nothing is turned.
func TestCorruptIsNew(t *testing.T) {
	for _, at := range []int{-40, -5, 0, 10, 50, 60, 64, 100} {
		for _, mask := range []uint32{0, 1, 1<<32 - 1} {
			whole := words(filled(3, 258, 5))
			was := bytes.Clone(whole)
			x := frame.Corrupt(whole[:8], at, mask)
			if !bytes.Equal(whole, was) {
				t.Errorf("at %d by %08x: it was turned", at, mask)
			}
			y := frame.Corrupt(whole[:8], at, mask)
			x = x[:cap(x)]
			for i := range x {
				x[i] = 99
			}
			if !bytes.Equal(whole, was) || !bytes.Equal(y, turned(was[:8], at, mask)) {
				t.Errorf("at %d by %08x: the answer is not new", at, mask)
			}
		}
	}
}

// bursts are masks: all of up to six bits, the widest ones, and others.
func bursts() []uint32 {
	l := masks()[1:]
	for i := uint32(1); i < 64; i++ {
		l = append(l, i)
	}
	r := rand.New(rand.NewSource(5))
	for range 60 {
		l = append(l, r.Uint32()|1, r.Uint32()|1<<31)
	}
	return l
}

// P3.6: of what is sent, with bits turned within 32 that follow one another,
// nothing is accepted: not by Decode, not by its own owner and state, and not
// by those that it seems to be of.
func TestBurstsAreRefused(t *testing.T) {
	l := samples()
	for i := range 16 {
		f := l[13*i]
		b := mustEncode(t, f)
		for at := -31 + i%8; at < 600; at += 8 {
			for _, mask := range bursts() {
				x := frame.Corrupt(b, at, mask)
				if bytes.Equal(x, b) {
					continue // all of its bits lie outside
				}
				seems := state(int(x[0])<<24|int(x[1])<<16|int(x[2])<<8|int(x[3]), uint16(x[4])<<8|uint16(x[5]))
				if isTaken(x, f.Owner, f.State) || isTaken(x, int(x[6]), seems) || isTaken(x, f.Owner, seems) || isTaken(x, int(x[6]), f.State) {
					t.Fatalf("%v at %d by %08x: taken", f, at, mask)
				}
			}
		}
	}
}

// isTaken says whether Decode or Accept answers anything but an error without
// a frame.
func isTaken(b []byte, owner int, s api.State) bool {
	f, err := frame.Decode(b)
	g, by := frame.Accept(b, owner, s)
	isNone := func(f api.Frame, err api.Errno) bool {
		return f == api.Frame{} && (err == api.ErrFrame || err == api.ErrSum)
	}
	return !isNone(f, err) || !isNone(g, by)
}
