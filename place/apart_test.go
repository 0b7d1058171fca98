package place_test

import (
	"slices"
	"testing"

	"rota/api"
	"rota/place"
)

// P16.4: what is handed in stays as it is, and so does the room around it.
func TestOnlyRead(t *testing.T) {
	whole := []api.Span{{From: 9, To: 12}, {From: 4, To: 3}, {From: 0, To: 1}, {From: 6, To: 8}, {From: -5, To: 1}, {From: 5, To: 6}, {From: 3, To: most}}
	was := slices.Clone(whole)
	sizes := []int{2, 0, 1, -1, 3, 1, high, 1, 0}
	were := slices.Clone(sizes)
	for from := range whole {
		for to := from; to <= len(whole); to++ {
			l := whole[from:to]
			place.First(l, 2, 2, 12)
			place.Free(l, 12)
			place.Most(l, 12)
			for begin := range sizes {
				for end := begin; end <= len(sizes); end++ {
					place.Fit(l, sizes[begin:end], 1, 12)
				}
			}
		}
	}
	if !slices.Equal(whole, was) || !slices.Equal(sizes, were) {
		t.Errorf("%v, %v", whole, sizes)
	}
}

// P16.4: what is answered is new memory: whoever writes over it, and behind it,
// turns no other answer, and nothing that was handed in.
func TestAnswersAreNew(t *testing.T) {
	taken, sizes := slices.Clone(ofTheChapter), []int{2, 4}
	free, others := place.Free(taken, 12), place.Free(taken, 12)
	clear(free[:cap(free)])
	places, more := mustFit(t, taken, sizes), mustFit(t, taken, sizes)
	clear(places[:cap(places)])
	if !slices.Equal(taken, ofTheChapter) || !slices.Equal(sizes, []int{2, 4}) {
		t.Errorf("%v, %v", taken, sizes)
	}
	if !slices.Equal(others, []api.Span{{From: 4, To: 6}, {From: 8, To: 12}}) || !slices.Equal(more, []int{4, 8}) {
		t.Errorf("%v, %v", others, more)
	}
	isFree(t, taken, 12, others)
	isFit(t, taken, sizes, 1, 12, more, api.OK)
	// Sizes of 0 have the numbers that are their places, too.
	zeros := []int{0, 0}
	l := mustFit(t, nil, zeros)
	l[0], l[1] = 7, 7
	if zeros[0] != 0 || zeros[1] != 0 {
		t.Error(zeros)
	}
}

// P16.4: what was handed in is not kept: what becomes of it behind a call turns no
// answer.
func TestNothingIsKept(t *testing.T) {
	taken, sizes := slices.Clone(ofTheChapter), []int{2, 4}
	free, places := place.Free(taken, 12), mustFit(t, taken, sizes)
	clear(taken)
	clear(sizes)
	if !slices.Equal(free, []api.Span{{From: 4, To: 6}, {From: 8, To: 12}}) || !slices.Equal(places, []int{4, 8}) {
		t.Errorf("%v, %v", free, places)
	}
	isFree(t, taken, 12, []api.Span{{From: 0, To: 12}})
	isFit(t, ofTheChapter, []int{2, 4}, 1, 12, places, api.OK)
}

func mustFit(t *testing.T, taken []api.Span, sizes []int) []int {
	t.Helper()
	l, err := place.Fit(taken, sizes, 1, 12)
	if err != api.OK {
		t.Fatalf("%v in %v: %v", sizes, taken, err)
	}
	return l
}
