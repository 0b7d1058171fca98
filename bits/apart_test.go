package bits_test

import (
	"slices"
	"testing"

	"rota/bits"
)

// P12.4: what is handed in stays as it is, and so does the room around it.
func TestOnlyRead(t *testing.T) {
	whole := []int{9, 3, 63, 0, 5, 5, 64, -1, 7, 12, 8, 2}
	was := slices.Clone(whole)
	for from := range whole {
		for to := from; to <= len(whole); to++ {
			bits.Of(whole[from:to])
		}
	}
	if !slices.Equal(whole, was) {
		t.Errorf("%v, not %v", whole, was)
	}
}

// P12.4: what is answered is new memory: whoever writes over it, and behind
// it, turns no other answer.
func TestAnswersAreNew(t *testing.T) {
	for _, s := range []uint64{1, 9, 0b110111, 1 << 63, 1<<64 - 1, 0x5555555555555555} {
		members, runsOf := bits.Members(s), bits.Runs(s)
		otherMembers, otherRuns := bits.Members(s), bits.Runs(s)
		clear(members[:cap(members)])
		clear(runsOf[:cap(runsOf)])
		if !slices.Equal(otherMembers, listed(s)) || !slices.Equal(bits.Members(s), listed(s)) {
			t.Errorf("%b: %v, %v", s, otherMembers, bits.Members(s))
		}
		if !slices.Equal(otherRuns, runs(s)) || !slices.Equal(bits.Runs(s), runs(s)) {
			t.Errorf("%b: %v, %v", s, otherRuns, bits.Runs(s))
		}
	}
}
