package ring_test

import (
	"slices"
	"testing"

	"rota/api"
	"rota/ring"
)

// P13.5: what is handed in stays as it is, and so does the room around it.
func TestOnlyRead(t *testing.T) {
	whole := []api.Arc{{From: 4, Len: 9}, {From: 3, Len: 1}, {From: 9, Len: 0}, {From: 1, Len: 2}, {From: 3, Len: 1}, {From: 0, Len: 3}, {From: 10, Len: 1}, {From: -1, Len: 5}, {From: 2, Len: 2}}
	was := slices.Clone(whole)
	numbers := []int{6, 4, 0, 9, 2, -1, 12, 1 << 30, 3, 1}
	were := slices.Clone(numbers)
	for from := range whole {
		for to := from; to <= len(whole); to++ {
			l := whole[from:to]
			ring.Covered(l, 10)
			ring.Gaps(l, 10)
			ring.Fit(l, 2, 10)
		}
	}
	for from := range numbers {
		for to := from; to <= len(numbers); to++ {
			ring.Hyper(numbers[from:to])
		}
	}
	if !slices.Equal(whole, was) || !slices.Equal(numbers, were) {
		t.Errorf("%v, %v", whole, numbers)
	}
}

// P13.5: what is answered is new memory: whoever writes over it, and behind it,
// turns no other answer, and nothing that was handed in.
func TestAnswersAreNew(t *testing.T) {
	for _, l := range [][]api.Arc{nil, {{From: 4, Len: 2}}, {{From: 2, Len: 0}}, {{From: 1, Len: 1}, {From: 5, Len: 2}, {From: 9, Len: 1}}} {
		was, want := slices.Clone(l), gapsOf(l, 10)
		gaps, others := mustGaps(t, l, 10), mustGaps(t, l, 10)
		clear(gaps[:cap(gaps)])
		if !same(l, was) || !same(others, want) || !same(mustGaps(t, l, 10), want) {
			t.Errorf("%v: %v, %v", l, others, mustGaps(t, l, 10))
		}
	}
}

// P13.5: the list that was handed in is not kept: what becomes of it behind a call
// turns no answer.
func TestNothingIsKept(t *testing.T) {
	l := []api.Arc{{From: 1, Len: 1}, {From: 5, Len: 2}}
	gaps := mustGaps(t, l, 10)
	want := gapsOf(l, 10)
	clear(l)
	if !same(gaps, want) {
		t.Errorf("%v, not %v", gaps, want)
	}
	isCovered(t, l, 10, 0, api.OK)
}
