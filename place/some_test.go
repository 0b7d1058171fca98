package place_test

import (
	"math/rand"
	"slices"
	"testing"

	"rota/api"
	"rota/place"
)

// The ends of all ints, and the greatest size, alignment and limit that there may be.
const (
	most  = 1<<63 - 1
	least = -1 << 63
	high  = 1 << 20
)

// noSizes are neither sizes nor limits, nor are they alignments.
var noSizes = []int{-1, -5, least, least + 1, -high, high + 1, 1 << 21, 1 << 32, 1<<32 + 5, most - 1, most}

// ofTheChapter are the spans of the chapter's examples.
var ofTheChapter = []api.Span{{From: 0, To: 4}, {From: 6, To: 8}}

// isTaken says whether a place is in a span.
func isTaken(taken []api.Span, at int) bool {
	for _, s := range taken {
		if at >= s.From && at < s.To {
			return true
		}
	}
	return false
}

// fits says it as the chapter does, place by place.
func fits(taken []api.Span, at, size, align, limit int) bool {
	if at < 0 || at%align != 0 || at+size > limit {
		return false
	}
	for i := range size {
		if isTaken(taken, at+i) {
			return false
		}
	}
	return true
}

// first tries all places.
func first(taken []api.Span, size, align, limit int) (int, bool) {
	for at := range limit + 1 {
		if fits(taken, at, size, align, limit) {
			return at, true
		}
	}
	return -1, false
}

// fit takes one place behind the other.
func fit(taken []api.Span, sizes []int, align, limit int) ([]int, api.Errno) {
	all := slices.Clone(taken)
	var places []int
	for _, size := range sizes {
		at, is := first(all, size, align, limit)
		if !is {
			return nil, api.ErrPlace
		}
		places = append(places, at)
		all = append(all, api.Span{From: at, To: at + size})
	}
	return places, api.OK
}

// freeOf is told place by place: a span begins where the place ahead is not free.
func freeOf(taken []api.Span, limit int) []api.Span {
	var l []api.Span
	was := false
	for at := range limit {
		is := !isTaken(taken, at)
		if is && !was {
			l = append(l, api.Span{From: at, To: at})
		}
		if is {
			l[len(l)-1].To++
		}
		was = is
	}
	return l
}

// mostOf is the greatest number of places one behind the other that are not taken.
func mostOf(taken []api.Span, limit int) int {
	greatest, run := 0, 0
	for at := range limit {
		run++
		if isTaken(taken, at) {
			run = 0
		}
		greatest = max(greatest, run)
	}
	return greatest
}

// course is what is taken, ahead of a limit.
type course struct {
	taken []api.Span
	limit int
}

// some are spans of all kinds: none, one, all pairs of small ones, and more by
// chance: that meet, touch, hold others, take nothing, or begin and end far away.
func some() []course {
	var l []course
	for limit := range 6 {
		l = append(l, course{nil, limit}, course{[]api.Span{}, limit})
	}
	for from := -1; from <= 5; from++ {
		for to := -1; to <= 5; to++ {
			l = append(l, course{[]api.Span{{From: from, To: to}}, 4})
			for other := -1; other <= 5; other++ {
				for end := other; end <= 5; end++ {
					l = append(l, course{[]api.Span{{From: from, To: to}, {From: other, To: end}}, 4})
				}
			}
		}
	}
	r := rand.New(rand.NewSource(16))
	for range 3000 {
		c := course{limit: r.Intn(40)}
		longest := 1 + r.Intn(12)
		for range r.Intn(8) {
			from := r.Intn(50) - 5
			c.taken = append(c.taken, api.Span{From: from, To: from + r.Intn(longest+2) - 1})
		}
		l = append(l, c)
	}
	return append(l, ends()...)
}

// ends are spans that begin and end where ints do, and what they leave.
func ends() []course {
	var l []course
	for _, s := range []api.Span{
		{From: least, To: most}, {From: most, To: least}, {From: least, To: 0}, {From: least, To: 1}, {From: least, To: 5},
		{From: 0, To: most}, {From: 1, To: most}, {From: 19, To: most}, {From: 20, To: most}, {From: 21, To: most},
		{From: least, To: least}, {From: most, To: most}, {From: least, To: least + 1}, {From: most - 1, To: most},
		{From: least, To: -1}, {From: 0, To: least}, {From: most, To: 0}, {From: 0, To: 1 << 32}, {From: 3, To: 1<<32 + 4},
		{From: -1 << 32, To: 2}, {From: 1<<32 + 3, To: 1<<32 + 9}, {From: -1, To: 1}, {From: 5, To: 5}, {From: 7, To: 6},
	} {
		l = append(l, course{[]api.Span{s}, 20}, course{[]api.Span{{From: 4, To: 6}, s, {From: 9, To: 10}}, 20})
	}
	return l
}

// Each of these tells of any other answer than the one that is wanted.

func isFirst(t *testing.T, taken []api.Span, size, align, limit, want int, is bool) {
	t.Helper()
	if at, ok := place.First(taken, size, align, limit); at != want || ok != is {
		t.Errorf("first of %d, align %d, in %v, limit %d: %d, %v, not %d, %v", size, align, taken, limit, at, ok, want, is)
	}
}

func isFit(t *testing.T, taken []api.Span, sizes []int, align, limit int, want []int, err api.Errno) {
	t.Helper()
	if l, e := place.Fit(taken, sizes, align, limit); !slices.Equal(l, want) || e != err {
		t.Errorf("fit of %v, align %d, in %v, limit %d: %v, %v, not %v, %v", sizes, align, taken, limit, l, e, want, err)
	}
}

func isFree(t *testing.T, taken []api.Span, limit int, want []api.Span) {
	t.Helper()
	if l := place.Free(taken, limit); !slices.Equal(l, want) {
		t.Errorf("free in %v, limit %d: %v, not %v", taken, limit, l, want)
	}
}

func isMost(t *testing.T, taken []api.Span, limit, want int) {
	t.Helper()
	if n := place.Most(taken, limit); n != want {
		t.Errorf("most in %v, limit %d: %d, not %d", taken, limit, n, want)
	}
}
