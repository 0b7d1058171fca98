package clock_test

import (
	"math"
	"testing"

	"rota/api"
)

// P8.1: a clock takes each offset that there is, the ends too.
func TestSet(t *testing.T) {
	k := mustNew(t, some())
	for _, n := range []int{1, -1, 0, 5, 91, -1000, 1 << 24, -1 << 32, far - 1, far, 1 - far, -far, 0} {
		sets(t, k, n)
	}
}

// P8.1: beyond the ends it takes none, and stays as it was.
func TestSetBeyond(t *testing.T) {
	k := mustNew(t, some())
	for _, had := range []int{0, 7, far, -far} {
		sets(t, k, had)
		hears(t, k, 1, 9)
		for _, n := range []int{far + 1, -far - 1, 2 * far, -2 * far, 1 << 62, math.MaxInt, math.MinInt} {
			if err := k.Set(n); err != api.ErrArg {
				t.Errorf("set %d: %v", n, err)
			}
			stands(t, k, had)
		}
		averages(t, k, all, -1, 9)
	}
}

// P8.1: the chapter's example; the drift is cut, and adds up.
func TestDrift(t *testing.T) {
	k := mustNew(t, chapters())
	drifts(t, k, 5, 1)
	k = mustNew(t, some())
	at := 0
	for _, x := range [][2]int{
		{0, 0}, {1, 1}, {-2, -2}, {2, 2}, {3, 3}, {4, 3}, {-3, -3}, {-4, -3}, {1000, 3}, {-1000, -3},
		{math.MaxInt, 3}, {math.MaxInt, 3}, {math.MinInt, -3}, {math.MinInt + 1, -3}, {1 << 32, 3}, {-1 << 32, -3},
	} {
		at += x[1]
		drifts(t, k, x[0], at)
	}
}

// P8.1: as much, and as little, as a clock may drift.
func TestDriftAtTheLimits(t *testing.T) {
	k := mustNew(t, widest())
	drifts(t, k, 1<<20-1, 1<<20-1)
	drifts(t, k, 1<<20, 1<<21-1)
	drifts(t, k, 1<<20+1, 3<<20-1)
	drifts(t, k, -1<<20-1, 1<<21-1)
	k = mustNew(t, exact())
	for _, by := range []int{1, -1, 0, math.MaxInt, math.MinInt} {
		drifts(t, k, by, 0)
	}
}

// What would be beyond an end is that end; and from there it goes back.
func TestDriftAtTheEnds(t *testing.T) {
	for _, c := range []struct {
		of    api.Config
		drift int
	}{{some(), 3}, {widest(), 1 << 20}} {
		for _, sign := range []int{1, -1} {
			k := mustNew(t, c.of)
			sets(t, k, sign*(far-c.drift))
			drifts(t, k, sign*c.drift, sign*far)
			drifts(t, k, sign*c.drift, sign*far)
			drifts(t, k, -sign*c.drift, sign*(far-c.drift))
			sets(t, k, sign*(far-1))
			drifts(t, k, sign*2, sign*far)
			drifts(t, k, -sign, sign*(far-1))
		}
	}
}

// P8.1: neither touches what was heard.
func TestOffsetsLeaveReadings(t *testing.T) {
	k := mustNew(t, some())
	hearsAll(t, k, 4, 5, 6)
	sets(t, k, 50)
	drifts(t, k, 2, 52)
	averages(t, k, all, -1, 5)
	averages(t, k, 1, -1, 4)
}
