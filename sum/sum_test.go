package sum_test

import (
	"bytes"
	"hash/crc32"
	"math/rand"
	"strings"
	"testing"

	"rota/sum"
)

// words puts bytes in bit by bit, as the chapter words it, beginning with n.
func words(n uint32, b []byte) uint32 {
	for _, c := range b {
		n ^= uint32(c)
		for i := 0; i < 8; i++ {
			low := n % 2
			n /= 2
			if low == 1 {
				n ^= 0xEDB88320
			}
		}
	}
	return n
}

// someBytes are the same in each run of the tests.
func someBytes(seed int64, size int) []byte {
	b := make([]byte, size)
	rand.New(rand.NewSource(seed)).Read(b)
	return b
}

// someSums are numbers to begin with: the ends, single bits, and others.
func someSums() []uint32 {
	l := []uint32{0, 1, 1 << 31, 1<<31 - 1, 1<<32 - 1, 1<<32 - 2, 0xEDB88320, 0x12345678}
	for i := 0; i < 32; i++ {
		l = append(l, 1<<i)
	}
	return l
}

// P1.1: the table of the chapter's examples, and its ends.
func TestTableExamples(t *testing.T) {
	l := sum.Table()
	for i, want := range map[int]uint32{0: 0, 1: 0x77073096, 128: 0xEDB88320, 255: 0x2D02EF8D} {
		if l[i] != want {
			t.Errorf("%d: %08x, not %08x", i, l[i], want)
		}
	}
}

// P1.1: each of the 256 is what eight steps make of its place.
func TestTableIsEightSteps(t *testing.T) {
	for i, n := range sum.Table() {
		if want := words(uint32(i), []byte{0}); n != want {
			t.Errorf("%d: %08x, not %08x", i, n, want)
		}
		if want := crc32.IEEETable[i]; n != want {
			t.Errorf("%d: %08x, elsewhere %08x", i, n, want)
		}
	}
}

// P1.1: a table that was answered is the caller's own.
func TestTableIsNewEachTime(t *testing.T) {
	l := sum.Table()
	for i := range l {
		l[i] = 5
	}
	if sum.Table() != [256]uint32(*crc32.IEEETable) {
		t.Error("the next table was turned")
	}
	if n := sum.Sum([]byte("123456789")); n != 0xCBF43926 {
		t.Errorf("the sum was turned: %08x", n)
	}
}

// P1.1: the chapter's sums, and others that are well known.
func TestSumExamples(t *testing.T) {
	for s, want := range map[string]uint32{
		"":                 0,
		"a":                0xE8B7BE43,
		"abc":              0x352441C2,
		"123456789":        0xCBF43926,
		"\x00":             0xD202EF8D,
		"\x00\x00\x00\x00": 0x2144DF1C,
		"\xff\xff\xff\xff": 0xFFFFFFFF,
		"The quick brown fox jumps over the lazy dog": 0x414FA339,
	} {
		if n := sum.Sum([]byte(s)); n != want {
			t.Errorf("%q: %08x, not %08x", s, n, want)
		}
	}
}

// P1.1: nil and an empty list are the same, room behind or not.
func TestSumOfNothing(t *testing.T) {
	for _, b := range [][]byte{nil, {}, make([]byte, 0, 9), []byte("abc")[:0]} {
		if n := sum.Sum(b); n != 0 {
			t.Errorf("%v: %08x", b, n)
		}
	}
}

// P1.1: each single byte, and texts of all lengths up to some hundred.
func TestSumOfAll(t *testing.T) {
	for i := 0; i < 256; i++ {
		b := []byte{byte(i)}
		if n, want := sum.Sum(b), ^words(1<<32-1, b); n != want {
			t.Errorf("%v: %08x, not %08x", b, n, want)
		}
	}
	for size := 0; size < 600; size++ {
		b := someBytes(int64(size), size)
		if n, want := sum.Sum(b), ^words(1<<32-1, b); n != want {
			t.Errorf("%d bytes: %08x, not %08x", size, n, want)
		}
		if n, want := sum.Sum(b), crc32.ChecksumIEEE(b); n != want {
			t.Errorf("%d bytes: %08x, elsewhere %08x", size, n, want)
		}
	}
	for _, size := range []int{1<<16 - 1, 1 << 16, 1<<16 + 1, 1 << 22} {
		b := someBytes(int64(size), size)
		if n, want := sum.Sum(b), crc32.ChecksumIEEE(b); n != want {
			t.Errorf("%d bytes: %08x, elsewhere %08x", size, n, want)
		}
	}
}

// P1.1: More, of the chapter's example.
func TestMoreExample(t *testing.T) {
	if n := sum.More(sum.Sum([]byte("12345")), []byte("6789")); n != 0xCBF43926 {
		t.Errorf("%08x", n)
	}
}

// P1.1: More begins with any number, whether it is some bytes' sum or not.
func TestMoreFromAnySum(t *testing.T) {
	for _, from := range someSums() {
		for size := 0; size < 40; size++ {
			b := someBytes(int64(size), size)
			if n, want := sum.More(from, b), ^words(^from, b); n != want {
				t.Errorf("%08x, %d bytes: %08x, not %08x", from, size, n, want)
			}
			if n, want := sum.More(from, b), crc32.Update(from, crc32.IEEETable, b); n != want {
				t.Errorf("%08x, %d bytes: %08x, elsewhere %08x", from, size, n, want)
			}
		}
	}
}

// P1.1: with nothing behind, the sum is what it was.
func TestMoreOfNothing(t *testing.T) {
	for _, from := range someSums() {
		for _, b := range [][]byte{nil, {}, []byte("abc")[:0]} {
			if n := sum.More(from, b); n != from {
				t.Errorf("%08x: %08x", from, n)
			}
		}
	}
}

// P1.3: what is handed in stays as it is, and so does the room around it.
func TestOnlyRead(t *testing.T) {
	m := sum.NewMeter()
	for name, call := range map[string]func(b []byte){
		"Sum":           func(b []byte) { sum.Sum(b) },
		"More":          func(b []byte) { sum.More(0x12345678, b) },
		"Add":           func(b []byte) { m.Add(b) },
		"Add of none":   func(b []byte) { (*sum.Meter)(nil).Add(b) },
		"Add of a zero": func(b []byte) { new(sum.Meter).Add(b) },
	} {
		whole := someBytes(3, 100)
		was := bytes.Clone(whole)
		for from := 0; from <= 50; from += 5 {
			call(whole[from : from+40])
			call(whole[from:from])
		}
		if !bytes.Equal(whole, was) {
			t.Errorf("%s: the bytes were turned", name)
		}
	}
}

// P1.4: More of Sum of some bytes is the sum of these with others behind,
// wherever the text is cut, and in how many pieces.
func TestMoreGoesOn(t *testing.T) {
	b := someBytes(4, 100)
	want := sum.Sum(b)
	for i := 0; i <= len(b); i++ {
		if n := sum.More(sum.Sum(b[:i]), b[i:]); n != want {
			t.Errorf("cut at %d: %08x, not %08x", i, n, want)
		}
		for j := i; j <= len(b); j++ {
			if n := sum.More(sum.More(sum.Sum(b[:i]), b[i:j]), b[j:]); n != want {
				t.Errorf("cut at %d and %d: %08x, not %08x", i, j, n, want)
			}
		}
	}
	one := sum.Sum(nil)
	for i := range b {
		one = sum.More(one, b[i:i+1])
	}
	if one != want {
		t.Errorf("byte by byte: %08x, not %08x", one, want)
	}
}

// P1.4: three texts laid over one another have their sums laid over one another.
func TestThreeTexts(t *testing.T) {
	for size := 0; size < 200; size++ {
		seed := int64(3 * size)
		a, b, c := someBytes(seed, size), someBytes(seed+1, size), someBytes(seed+2, size)
		all := make([]byte, size)
		for i := range all {
			all[i] = a[i] ^ b[i] ^ c[i]
		}
		if n, want := sum.Sum(all), sum.Sum(a)^sum.Sum(b)^sum.Sum(c); n != want {
			t.Errorf("%d bytes: %08x, not %08x", size, n, want)
		}
	}
}

// turned is b with the bits from bit at on turned where mask says.
func turned(b []byte, at int, mask uint32) []byte {
	b = bytes.Clone(b)
	for i := 0; i < 32; i++ {
		if bit := at + i; mask>>i&1 == 1 && bit < 8*len(b) {
			b[bit/8] ^= 1 << (bit % 8)
		}
	}
	return b
}

// bursts are masks: all of up to ten bits, the widest ones, and others.
func bursts() []uint32 {
	l := []uint32{1<<32 - 1, 1<<31 + 1, 1 << 31, 0xEDB88320, 0x80000001, 0xAAAAAAAA, 0x55555555}
	for i := uint32(1); i < 1024; i++ {
		l = append(l, i)
	}
	r := rand.New(rand.NewSource(5))
	for range 1000 {
		l = append(l, r.Uint32()|1)
	}
	return l
}

// P1.4: turned bits within 32 that follow one another turn the sum.
func TestBurstsAreFound(t *testing.T) {
	for _, size := range []int{1, 4, 5, 12} {
		b := someBytes(int64(size), size)
		was := sum.Sum(b)
		for at := 0; at < 8*size; at++ {
			for _, mask := range bursts() {
				x := turned(b, at, mask)
				if bytes.Equal(x, b) {
					continue // all of its bits lie behind the end
				}
				if sum.Sum(x) == was {
					t.Fatalf("%d bytes, bit %d, mask %08x: not found", size, at, mask)
				}
			}
		}
	}
}

// P1.4: a burst turns the sum by just as much whatever it falls upon.
func TestBurstsWhateverTheText(t *testing.T) {
	a, b := someBytes(6, 75), []byte(strings.Repeat("\x00", 75))
	for at := 0; at < 8*75; at += 7 {
		for _, mask := range []uint32{1, 0x80000001, 1<<32 - 1} {
			x, y := turned(a, at, mask), turned(b, at, mask)
			by := sum.Sum(x) ^ sum.Sum(a)
			if by == 0 || by != sum.Sum(y)^sum.Sum(b) {
				t.Errorf("bit %d, mask %08x: turned by %08x", at, mask, by)
			}
		}
	}
}

// P1.4: bytes with their sum behind, the lowest byte first, have one same sum.
func TestSumBehind(t *testing.T) {
	for size := 0; size < 300; size++ {
		b := someBytes(int64(size), size)
		n := sum.Sum(b)
		b = append(b, byte(n), byte(n>>8), byte(n>>16), byte(n>>24))
		if got := sum.Sum(b); got != 0x2144DF1C {
			t.Errorf("%d bytes: %08x", size, got)
		}
	}
}
