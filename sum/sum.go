// Package sum is layer 1: check sums of 32 bits, and meters that count them.
package sum

// overlay is what a step lays over a number whose lowest bit was 1.
const overlay = 0xEDB88320

// Table is what eight steps make of 0, 1, 2, .. 255.
//
// It is made anew by each call, so whoever changes it changes nobody else's.
func Table() [256]uint32 {
	var l [256]uint32
	for i := range l {
		l[i] = eightSteps(uint32(i))
	}
	return l
}

// Sum is the sum of b.
func Sum(b []byte) uint32 {
	// A sum of nothing is 0, for all its bits were turned at last: to go on
	// from it is to begin with all ones.
	return More(0, b)
}

// More is the sum of some bytes with b behind, where sum is theirs.
func More(sum uint32, b []byte) uint32 {
	n := ^sum
	for _, c := range b {
		n = eightSteps(n ^ uint32(c))
	}
	return ^n
}

func eightSteps(n uint32) uint32 {
	for range 8 {
		n = step(n)
	}
	return n
}

func step(n uint32) uint32 {
	if n&1 == 1 {
		return n>>1 ^ overlay
	}
	return n >> 1
}
