package place_test

import (
	"math/rand"
	"testing"

	"rota/api"
	"rota/place"
)

// P16.2: the chapter's examples.
func TestFitOfTheChapter(t *testing.T) {
	isFit(t, ofTheChapter, []int{2, 4}, 1, 12, []int{4, 8}, api.OK)
	isFit(t, ofTheChapter, []int{2, 4, 1}, 1, 12, nil, api.ErrPlace)
}

// P16.2: of each size the first place, where those ahead of it are taken too: in
// spans of all kinds, small sizes and great ones.
func TestFit(t *testing.T) {
	r := rand.New(rand.NewSource(2))
	for _, c := range some() {
		for range 4 {
			align, greatest := 1+r.Intn(5), 1+r.Intn(6)
			sizes := make([]int, r.Intn(9))
			for i := range sizes {
				sizes[i] = r.Intn(greatest + 1)
			}
			places, err := fit(c.taken, sizes, align, c.limit)
			isFit(t, c.taken, sizes, align, c.limit, places, err)
		}
	}
}

// P16.2: in order, not by how great they are: what fits in one order need not in
// another, and a small one takes a place ahead of a great one again.
func TestFitInOrder(t *testing.T) {
	isFit(t, ofTheChapter, []int{4, 2}, 1, 12, []int{8, 4}, api.OK)
	isFit(t, ofTheChapter, []int{1, 1, 4}, 1, 12, []int{4, 5, 8}, api.OK)
	isFit(t, ofTheChapter, []int{3, 1, 1, 1}, 1, 12, []int{8, 4, 5, 11}, api.OK)
	isFit(t, ofTheChapter, []int{1, 2, 1, 2}, 1, 12, []int{4, 8, 5, 10}, api.OK)
	isFit(t, ofTheChapter, []int{1, 2, 2, 1}, 1, 12, []int{4, 8, 10, 5}, api.OK)
	isFit(t, ofTheChapter, []int{1, 4, 2}, 1, 12, nil, api.ErrPlace)
	isFit(t, nil, []int{3, 3, 3}, 4, 12, []int{0, 4, 8}, api.OK)
	isFit(t, nil, []int{3, 3, 4}, 4, 12, []int{0, 4, 8}, api.OK)
	isFit(t, nil, []int{3, 4, 5}, 4, 12, nil, api.ErrPlace)
	isFit(t, nil, []int{5, 1, 4}, 4, 16, []int{0, 8, 12}, api.OK)
}

// P16.2: sizes of 0 are all at place 0, and take nothing.
func TestFitOfNothing(t *testing.T) {
	isFit(t, ofTheChapter, nil, 1, 12, nil, api.OK)
	isFit(t, ofTheChapter, []int{}, 1, 0, nil, api.OK)
	isFit(t, ofTheChapter, []int{0, 2, 0, 4, 0}, 1, 12, []int{0, 4, 0, 8, 0}, api.OK)
	isFit(t, nil, []int{0, 12, 0}, 5, 12, []int{0, 0, 0}, api.OK)
	isFit(t, nil, []int{0, 0}, 1, 0, []int{0, 0}, api.OK)
	isFit(t, nil, []int{0, 1}, 1, 0, nil, api.ErrPlace)
}

// P16.2: other sizes, alignments and limits than there may be, whether or not there
// is a place for those ahead of them.
func TestFitOfWrong(t *testing.T) {
	for _, n := range noSizes {
		for _, sizes := range [][]int{nil, {1}, {2, 4}, {5}} {
			isFit(t, ofTheChapter, sizes, n, 12, nil, api.ErrArg)
			isFit(t, ofTheChapter, sizes, 1, n, nil, api.ErrArg)
		}
		for _, sizes := range [][]int{{n}, {n, 2}, {2, n}, {2, 4, 1, n}, {5, n, 5}, {0, n}, {high, n}} {
			isFit(t, ofTheChapter, sizes, 1, 12, nil, api.ErrArg)
		}
	}
	isFit(t, ofTheChapter, nil, 0, 12, nil, api.ErrArg)
	isFit(t, ofTheChapter, []int{2}, 0, 12, nil, api.ErrArg)
	isFit(t, ofTheChapter, []int{5}, 0, 12, nil, api.ErrArg)
}

// P16.2: the greatest sizes, alignments and limits.
func TestFitOfTheGreatest(t *testing.T) {
	isFit(t, nil, []int{high}, 1, high, []int{0}, api.OK)
	isFit(t, nil, []int{high}, high, high, []int{0}, api.OK)
	isFit(t, nil, []int{high, 1}, 1, high, nil, api.ErrPlace)
	isFit(t, nil, []int{1, 1}, high, high, nil, api.ErrPlace)
	isFit(t, nil, []int{1, high - 1}, 1, high, []int{0, 1}, api.OK)
	isFit(t, nil, []int{high / 2, high / 2, 0}, high/2, high, []int{0, high / 2, 0}, api.OK)
}

// P16.2: many sizes, and many spans: all places with one in three taken get theirs,
// behind many that are too small.
func TestFitOfMany(t *testing.T) {
	ones := make([]int, high)
	for i := range ones {
		ones[i] = 1
	}
	places, err := place.Fit(nil, ones, 1, high)
	if err != api.OK || len(places) != high {
		t.Fatalf("%d, %v", len(places), err)
	}
	for i, at := range places {
		if at != i {
			t.Fatalf("%d at %d", i, at)
		}
	}
	if _, err = place.Fit(nil, append(ones, 1), 1, high); err != api.ErrPlace {
		t.Error(err)
	}
}

// P16.2: sizes that none of many small rooms has, one by one.
func TestFitBehindMany(t *testing.T) {
	var taken []api.Span
	for at := 0; at < high/2; at += 2 {
		taken = append(taken, api.Span{From: at, To: at + 1})
	}
	twos := make([]int, high/4)
	for i := range twos {
		twos[i] = 2
	}
	// The first one begins at the last of the odd places, just ahead of the half.
	places, err := place.Fit(taken, twos, 1, high)
	if err != api.OK || len(places) != len(twos) {
		t.Fatalf("%d, %v", len(places), err)
	}
	for i, at := range places {
		if at != high/2-1+2*i {
			t.Fatalf("%d at %d", i, at)
		}
	}
}
