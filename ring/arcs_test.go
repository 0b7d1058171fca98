package ring_test

import (
	"testing"

	"rota/api"
)

// P13.2: the chapter's examples.
func TestArcsOfTheChapter(t *testing.T) {
	isMeet(t, api.Arc{From: 4, Len: 2}, api.Arc{From: 0, Len: 1}, 5, true, api.OK)
	isMeet(t, api.Arc{From: 1, Len: 0}, api.Arc{From: 1, Len: 1}, 5, false, api.OK)
	round := []api.Arc{{From: 4, Len: 2}}
	isCovered(t, round, 5, 2, api.OK)
	isGaps(t, round, 5, []api.Arc{{From: 1, Len: 3}}, api.OK)
	isGaps(t, nil, 5, []api.Arc{{From: 0, Len: 5}}, api.OK)
	isGaps(t, []api.Arc{{From: 0, Len: 5}}, 5, nil, api.OK)
	isFit(t, round, 3, 5, 1, api.OK)
	isFit(t, round, 4, 5, 0, api.ErrArg)
}

// P13.2: all pairs of arcs of small rings.
func TestMeet(t *testing.T) {
	for n := 1; n <= 8; n++ {
		for _, a := range arcs(n) {
			for _, b := range arcs(n) {
				isMeet(t, a, b, n, meet(a, b, n), api.OK)
			}
		}
	}
}

// P13.2: arcs of the greatest ring meet in a single place, or not by one.
func TestMeetInOnePlace(t *testing.T) {
	const n = api.MaxRing
	for _, from := range []int{0, 1, 5, n / 2, n - 2, n - 1} {
		a := api.Arc{From: from, Len: n / 2}
		behind, ahead := (from+n/2)%n, (from+n-1)%n
		last := (behind + n - 1) % n
		isMeet(t, a, api.Arc{From: behind, Len: n / 2}, n, false, api.OK)
		isMeet(t, a, api.Arc{From: last, Len: 1}, n, true, api.OK)
		isMeet(t, a, api.Arc{From: behind, Len: n/2 + 1}, n, true, api.OK)
		isMeet(t, a, api.Arc{From: ahead, Len: 1}, n, false, api.OK)
		isMeet(t, a, api.Arc{From: ahead, Len: 2}, n, true, api.OK)
		isMeet(t, a, api.Arc{From: last, Len: 0}, n, false, api.OK)
		isMeet(t, api.Arc{From: last, Len: n}, api.Arc{From: behind, Len: n}, n, true, api.OK)
	}
}

// P13.2: what is covered, and the gaps, of arcs of all kinds.
func TestCoveredAndGaps(t *testing.T) {
	for _, c := range some() {
		isCovered(t, c.l, c.n, covered(c.l, c.n), api.OK)
		isGaps(t, c.l, c.n, gapsOf(c.l, c.n), api.OK)
	}
}

// P13.2: gaps that go round the end are one, and told last; one ahead of the first
// arc and one behind the last one are two, if the end is taken.
func TestGapsAtTheEnd(t *testing.T) {
	for _, x := range []struct {
		n       int
		l, want []api.Arc
	}{
		{5, []api.Arc{{From: 1, Len: 2}}, []api.Arc{{From: 3, Len: 3}}},
		{5, []api.Arc{{From: 0, Len: 1}}, []api.Arc{{From: 1, Len: 4}}},
		{5, []api.Arc{{From: 4, Len: 1}}, []api.Arc{{From: 0, Len: 4}}},
		{6, []api.Arc{{From: 1, Len: 1}, {From: 3, Len: 1}}, []api.Arc{{From: 2, Len: 1}, {From: 4, Len: 3}}},
		{6, []api.Arc{{From: 5, Len: 1}, {From: 2, Len: 1}}, []api.Arc{{From: 0, Len: 2}, {From: 3, Len: 2}}},
		{6, []api.Arc{{From: 0, Len: 1}, {From: 3, Len: 1}}, []api.Arc{{From: 1, Len: 2}, {From: 4, Len: 2}}},
		{6, []api.Arc{{From: 3, Len: 6}}, nil},
		{6, []api.Arc{{From: 3, Len: 5}}, []api.Arc{{From: 2, Len: 1}}},
		{1, nil, []api.Arc{{From: 0, Len: 1}}},
		{1, []api.Arc{{From: 0, Len: 1}}, nil},
		{1, []api.Arc{{From: 0, Len: 0}}, []api.Arc{{From: 0, Len: 1}}},
		{4, []api.Arc{{From: 2, Len: 0}, {From: 3, Len: 0}}, []api.Arc{{From: 0, Len: 4}}},
	} {
		isGaps(t, x.l, x.n, x.want, api.OK)
	}
}

// P13.2: arcs may overlap, be the same, lie one within another, and come in any
// order.
func TestArcsThatOverlap(t *testing.T) {
	l := []api.Arc{{From: 7, Len: 5}, {From: 8, Len: 1}, {From: 7, Len: 5}, {From: 1, Len: 2}, {From: 9, Len: 2}, {From: 7, Len: 0}}
	isCovered(t, l, 10, 6, api.OK)
	isGaps(t, l, 10, []api.Arc{{From: 3, Len: 4}}, api.OK)
	isFit(t, l, 4, 10, 3, api.OK)
	isFit(t, l, 5, 10, 0, api.ErrArg)
}

// P13.2: the least place, of each size, among arcs of all kinds.
func TestFit(t *testing.T) {
	for _, c := range some() {
		for size := -1; size <= c.n+1; size++ {
			want, err := fit(c.l, size, c.n)
			isFit(t, c.l, size, c.n, want, err)
		}
	}
}

// P13.2: what fits may go round the end; behind the end of a gap that goes round
// it, place 0 is the least.
func TestFitRoundTheEnd(t *testing.T) {
	l := []api.Arc{{From: 2, Len: 3}}
	isFit(t, l, 1, 8, 0, api.OK)
	isFit(t, l, 2, 8, 0, api.OK)
	isFit(t, l, 3, 8, 5, api.OK)
	isFit(t, l, 4, 8, 5, api.OK)
	isFit(t, l, 5, 8, 5, api.OK)
	isFit(t, l, 6, 8, 0, api.ErrArg)
	isFit(t, []api.Arc{{From: 1, Len: 1}}, 7, 8, 2, api.OK)
	isFit(t, nil, 8, 8, 0, api.OK)
	isFit(t, []api.Arc{{From: 3, Len: 0}}, 8, 8, 0, api.OK)
	isFit(t, []api.Arc{{From: 3, Len: 8}}, 1, 8, 0, api.ErrArg)
}

// P13.2: a size is from 1 to n.
func TestFitOfNoSize(t *testing.T) {
	for _, n := range []int{1, 5, api.MaxRing} {
		for _, size := range []int{0, -1, n + 1, least, most} {
			isFit(t, nil, size, n, 0, api.ErrArg)
		}
	}
}

// P13.2: of a ring that may not be there is nothing, whatever the arcs and sizes.
func TestArcsOfNoRing(t *testing.T) {
	for _, n := range noRings {
		for _, l := range [][]api.Arc{nil, {{From: 0, Len: 0}}, {{From: 0, Len: 1}}, {{From: -1, Len: 1}}} {
			isCovered(t, l, n, 0, api.ErrRing)
			isGaps(t, l, n, nil, api.ErrRing)
			for _, size := range []int{1, 0, -1, n, n + 1} {
				isFit(t, l, size, n, 0, api.ErrRing)
			}
		}
		isMeet(t, api.Arc{}, api.Arc{}, n, false, api.ErrRing)
		isMeet(t, api.Arc{Len: 1}, api.Arc{Len: 1}, n, false, api.ErrRing)
	}
}

// P13.2: so it is if one of the arcs may not be, wherever it stands.
func TestArcsThatMayNotBe(t *testing.T) {
	for _, n := range []int{1, 2, 5, api.MaxRing} {
		fine := api.Arc{From: n - 1, Len: n}
		for _, a := range noArcs(n) {
			isMeet(t, a, fine, n, false, api.ErrRing)
			isMeet(t, fine, a, n, false, api.ErrRing)
			isMeet(t, a, a, n, false, api.ErrRing)
			for _, l := range [][]api.Arc{{a}, {a, fine}, {fine, a}, {fine, a, fine}} {
				isCovered(t, l, n, 0, api.ErrRing)
				isGaps(t, l, n, nil, api.ErrRing)
				isFit(t, l, 1, n, 0, api.ErrRing)
				isFit(t, l, 0, n, 0, api.ErrRing)
			}
		}
	}
}

// P13.2: many arcs, each as long as can be, of the greatest ring: the answers come
// nevertheless.
func TestManyLongArcs(t *testing.T) {
	const n = api.MaxRing
	var l []api.Arc
	for i := range 200000 {
		l = append(l, api.Arc{From: n/2 + i, Len: n/2 + n/4 - i})
	}
	isCovered(t, l, n, n-n/4, api.OK)
	isGaps(t, l, n, []api.Arc{{From: n / 4, Len: n / 4}}, api.OK)
	isFit(t, l, n/4, n, n/4, api.OK)
	isFit(t, l, n/4+1, n, 0, api.ErrArg)
}

// P13.2: a gap behind each arc.
func TestManyGaps(t *testing.T) {
	const n = api.MaxRing
	var l, want []api.Arc
	for p := 0; p < n; p += 2 {
		l = append(l, api.Arc{From: p, Len: 1})
		want = append(want, api.Arc{From: p + 1, Len: 1})
	}
	isCovered(t, l, n, n/2, api.OK)
	if gaps := mustGaps(t, l, n); !same(gaps, want) {
		t.Errorf("%d gaps", len(gaps))
	}
	isFit(t, l[1:], 3, n, n-1, api.OK)
}
