package clock_test

import (
	"testing"

	"rota/api"
)

// P8.4: the chapter's example.
func TestRoundExample(t *testing.T) {
	k := mustNew(t, chapters())
	drifts(t, k, 5, 1)
	hearsAll(t, k, -3, 5, 2, 9)
	rounds(t, k, 15, 2, 2)
	stands(t, k, 3)
	averagesNone(t, k, 3, 3)
	averagesNone(t, k, 15, -1)
}

// P8.4: the average of members, with 0 for own, is added to the offset.
func TestRound(t *testing.T) {
	k := mustNew(t, some())
	sets(t, k, 1000)
	at := 1000
	for _, x := range []struct {
		readings []int
		members  uint16
		own      int
		want     int
	}{
		{[]int{10, 20, 30, 40, 50}, all, -1, 30},
		{[]int{10, 20, 30, 40, 50}, all, 4, 20},
		{[]int{-10, -20, -30, -40, -51}, all, -1, -30},
		{[]int{-10, -21, -30, -40, -50}, 3, 2, -16},
		{[]int{60, 50}, 3, 1, 30},
		{[]int{60, 50}, 2, 0, 50},
		{[]int{60, 50}, 3, 9, 55},
		{[]int{60}, 1, 0, 0},
	} {
		hearsAll(t, k, x.readings...)
		rounds(t, k, x.members, x.own, x.want)
		at += x.want
		stands(t, k, at)
	}
}

// P8.4: where there is no average, nothing is added.
func TestRoundOfNone(t *testing.T) {
	k := mustNew(t, some())
	sets(t, k, 5)
	for _, own := range append([]int{0, 3, 5}, wild...) {
		rounds(t, k, all, own, 0)
		rounds(t, k, 0, own, 0)
		hears(t, k, 1, 50)
		rounds(t, k, all&^2, own, 0)
		stands(t, k, 5)
	}
}

// P8.4: there are no readings any more, of members and of others.
func TestRoundForgets(t *testing.T) {
	k := mustNew(t, widest())
	for _, members := range []uint16{all, 1, 0, 1 << 15} {
		for node := range 16 {
			hears(t, k, node, 40)
		}
		if _, err := k.Round(members, 3); err != api.OK {
			t.Fatal(err)
		}
		averagesNone(t, k, all, -1)
		for node := range 16 {
			averagesNone(t, k, 1<<node, -1)
		}
	}
	hears(t, k, 7, 3)
	averages(t, k, all, -1, 3)
}

// P8.4: what is added is the average cut to Bound, at the bound and beyond.
func TestRoundIsBound(t *testing.T) {
	for _, c := range []api.Config{chapters(), some(), widest(), exact()} {
		for _, sign := range []int{1, -1} {
			k := mustNew(t, c)
			at := 0
			for _, x := range [][2]int{
				{c.Bound - 1, c.Bound - 1}, {c.Bound, c.Bound}, {c.Bound + 1, c.Bound},
				{1 << 30, c.Bound}, {2 * far, c.Bound}, {1, 1},
			} {
				hears(t, k, 1, sign*x[0])
				averages(t, k, all, -1, sign*x[0])
				rounds(t, k, all, -1, sign*x[1])
				at += sign * x[1]
				stands(t, k, at)
			}
		}
	}
}

// P8.4: only the average is cut, not each reading.
func TestRoundCutsTheAverage(t *testing.T) {
	k := mustNew(t, some())
	hearsAll(t, k, 100, -60)
	rounds(t, k, 3, -1, 20)
	hearsAll(t, k, 60, 1000)
	rounds(t, k, 3, -1, 70)
	stands(t, k, 90)
}

// P8.4: an offset that would be beyond an end is that end; the cut average is
// told all the same.
func TestRoundAtTheEnds(t *testing.T) {
	for _, sign := range []int{1, -1} {
		k := mustNew(t, some())
		for _, x := range [][3]int{
			{far - 50, 50, far}, {far - 50, 49, far - 1}, {far - 50, 51, far}, {far - 1, 70, far}, {far, 1, far}, {far, 70, far}, {far, -70, far - 70},
		} {
			sets(t, k, sign*x[0])
			hears(t, k, 1, sign*x[1])
			rounds(t, k, all, -1, sign*x[1])
			stands(t, k, sign*x[2])
			averagesNone(t, k, all, -1)
		}
		sets(t, k, sign*(far-10))
		hears(t, k, 1, sign*1000)
		rounds(t, k, all, -1, sign*70)
		stands(t, k, sign*far)
	}
}
