package place_test

import (
	"testing"

	"rota/api"
)

// P16.3: the chapter's examples.
func TestFreeOfTheChapter(t *testing.T) {
	isFree(t, ofTheChapter, 12, []api.Span{{From: 4, To: 6}, {From: 8, To: 12}})
	isMost(t, ofTheChapter, 12, 4)
}

// P16.3: the places that are in no span, told place by place, and the greatest
// number of them side by side: in spans of all kinds.
func TestFree(t *testing.T) {
	for _, c := range some() {
		isFree(t, c.taken, c.limit, freeOf(c.taken, c.limit))
		isMost(t, c.taken, c.limit, mostOf(c.taken, c.limit))
	}
}

// P16.3: what takes nothing parts nothing; what touches leaves nothing between.
func TestFreeAroundNothing(t *testing.T) {
	isFree(t, []api.Span{{From: 5, To: 5}, {From: 7, To: 2}}, 9, []api.Span{{From: 0, To: 9}})
	isFree(t, []api.Span{{From: 5, To: 7}, {From: 2, To: 5}}, 9, []api.Span{{From: 0, To: 2}, {From: 7, To: 9}})
	isFree(t, []api.Span{{From: 1, To: 8}, {From: 2, To: 3}}, 9, []api.Span{{From: 0, To: 1}, {From: 8, To: 9}})
	isFree(t, []api.Span{{From: -5, To: 0}, {From: 9, To: 12}}, 9, []api.Span{{From: 0, To: 9}})
	isFree(t, []api.Span{{From: -5, To: 1}, {From: 8, To: 12}}, 9, []api.Span{{From: 1, To: 8}})
	isFree(t, []api.Span{{From: 0, To: 9}}, 9, nil)
	isFree(t, nil, 0, nil)
	isMost(t, nil, 0, 0)
	isMost(t, []api.Span{{From: 0, To: 9}}, 9, 0)
	isMost(t, []api.Span{{From: 5, To: 6}}, 9, 5)
}

// P16.3: other limits than there may be, and the greatest one.
func TestFreeOfWrong(t *testing.T) {
	for _, n := range noSizes {
		isFree(t, nil, n, nil)
		isFree(t, ofTheChapter, n, nil)
		isMost(t, nil, n, 0)
		isMost(t, ofTheChapter, n, 0)
	}
	isFree(t, ofTheChapter, high, []api.Span{{From: 4, To: 6}, {From: 8, To: high}})
	isMost(t, ofTheChapter, high, high-8)
	isMost(t, nil, high, high)
}
