package place_test

import (
	"testing"

	"rota/api"
	"rota/place"
)

// P16.1: the chapter's examples.
func TestFirstOfTheChapter(t *testing.T) {
	isFirst(t, ofTheChapter, 2, 1, 12, 4, true)
	isFirst(t, ofTheChapter, 3, 1, 12, 8, true)
	isFirst(t, ofTheChapter, 3, 4, 12, 8, true)
	isFirst(t, ofTheChapter, 5, 1, 12, -1, false)
}

// P16.1: no place below the one that is told fits, and this one does, as the chapter
// says it: of all sizes and alignments, in spans of all kinds.
func TestFirst(t *testing.T) {
	for _, c := range some() {
		for size := range 9 {
			for align := 1; align <= 7; align++ {
				at, is := first(c.taken, size, align, c.limit)
				isFirst(t, c.taken, size, align, c.limit, at, is)
			}
		}
	}
}

// P16.1: a size of 0 fits at place 0, whatever is taken, and whatever the limit is.
func TestNothingFitsAnywhere(t *testing.T) {
	for _, c := range some() {
		for _, limit := range []int{0, 1, c.limit, high} {
			isFirst(t, c.taken, 0, 1, limit, 0, true)
			isFirst(t, c.taken, 0, 3, limit, 0, true)
			isFirst(t, c.taken, 0, high, limit, 0, true)
		}
	}
}

// P16.1: a size may end just at the limit, and at a span's beginning; not one place
// behind it.
func TestFirstAtTheLimit(t *testing.T) {
	isFirst(t, nil, 7, 1, 7, 0, true)
	isFirst(t, nil, 8, 1, 7, -1, false)
	isFirst(t, nil, 1, 1, 0, -1, false)
	taken := []api.Span{{From: 0, To: 3}}
	isFirst(t, taken, 4, 4, 8, 4, true)
	isFirst(t, taken, 5, 4, 8, -1, false)
	isFirst(t, taken, 5, 1, 8, 3, true)
	isFirst(t, []api.Span{{From: 3, To: 4}}, 3, 1, 4, 0, true)
	isFirst(t, []api.Span{{From: 3, To: 4}}, 4, 1, 8, 4, true)
	isFirst(t, []api.Span{{From: 3, To: 4}}, 4, 1, 7, -1, false)
	// An aligned place stands in the room, but too far behind its beginning.
	isFirst(t, []api.Span{{From: 0, To: 1}, {From: 7, To: 8}}, 4, 4, 12, 8, true)
	isFirst(t, []api.Span{{From: 0, To: 1}, {From: 7, To: 8}}, 3, 4, 12, 4, true)
}

// P16.1: the greatest sizes, alignments and limits.
func TestFirstOfTheGreatest(t *testing.T) {
	isFirst(t, nil, high, 1, high, 0, true)
	isFirst(t, nil, high, high, high, 0, true)
	isFirst(t, nil, high, 1, high-1, -1, false)
	one := []api.Span{{From: 0, To: 1}}
	isFirst(t, one, high, 1, high, -1, false)
	isFirst(t, one, high-1, 1, high, 1, true)
	isFirst(t, one, 1, high, high, -1, false)
	isFirst(t, one, 0, high, high, 0, true)
	isFirst(t, one, 1, high-1, high, high-1, true)
	isFirst(t, one, 2, high-1, high, -1, false)
	isFirst(t, one, high/2, high/2, high, high/2, true)
	isFirst(t, []api.Span{{From: 0, To: high - 1}}, 1, 1, high, high-1, true)
	isFirst(t, []api.Span{{From: 0, To: high}}, 1, 1, high, -1, false)
	isFirst(t, []api.Span{{From: high, To: high + 9}}, high, 1, high, 0, true)
}

// P16.1: other sizes, alignments and limits than there may be.
func TestFirstOfWrong(t *testing.T) {
	for _, taken := range [][]api.Span{nil, ofTheChapter} {
		for _, n := range noSizes {
			isFirst(t, taken, n, 1, 12, -1, false)
			isFirst(t, taken, 2, n, 12, -1, false)
			isFirst(t, taken, 2, 1, n, -1, false)
			isFirst(t, taken, 0, n, 12, -1, false)
			isFirst(t, taken, 0, 1, n, -1, false)
			isFirst(t, taken, n, n, n, -1, false)
		}
		isFirst(t, taken, 2, 0, 12, -1, false)
		isFirst(t, taken, 0, 0, 12, -1, false)
	}
}

// P16.1: many spans: all even places are taken, in any order, and more than once.
func TestFirstOfMany(t *testing.T) {
	var taken []api.Span
	for at := high - 2; at >= 0; at -= 2 {
		taken = append(taken, api.Span{From: at, To: at + 1})
	}
	taken = append(taken, taken[:high/4]...)
	isFirst(t, taken, 1, 1, high, 1, true)
	isFirst(t, taken, 1, 3, high, 3, true)
	isFirst(t, taken, 1, 2, high, -1, false)
	isFirst(t, taken, 2, 1, high, -1, false)
	if n := place.Most(taken, high); n != 1 {
		t.Error(n)
	}
	if l := place.Free(taken, high); len(l) != high/2 || l[high/2-1] != (api.Span{From: high - 1, To: high}) {
		t.Error(len(l))
	}
}
