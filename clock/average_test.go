package clock_test

import (
	"slices"
	"testing"
)

// P8.4: the chapter's examples.
func TestAverageExamples(t *testing.T) {
	k := mustNew(t, chapters())
	drifts(t, k, 5, 1)
	hearsAll(t, k, -3, 5, 2, 9)
	averages(t, k, 15, 2, 2)
	averages(t, k, 3, 3, 1)
	averages(t, k, 3, -1, 1)
}

// averageTable is lists of readings, in no order, and what is halfway.
var averageTable = []struct {
	want int
	of   []int
}{
	{7, []int{7}}, {-7, []int{-7}}, {0, []int{0}},
	{3, []int{2, 4}}, {2, []int{4, 1}}, {-1, []int{0, -1}}, {-3, []int{-2, -3}}, {-3, []int{-3, -3}}, {-1, []int{-4, 3}}, {0, []int{5, -4}},
	{5, []int{9, 5, -1000}}, {-5, []int{-5, -5, 8}}, {1, []int{3, 1, 1}},
	{2, []int{9, 5, -3, 0}}, {-2, []int{0, -3, 99, -99}}, {4, []int{4, 4, 4, 4}},
	{10, []int{1, 20, 0, 5, 1000}}, {-5, []int{-10, 9, -1, 0, -20}},
	{-1, []int{-100, 100, -8, 7, 1, 2, 3, 4, 5}},
	{0, []int{-2 * far, 2 * far}}, {2 * far, []int{2 * far, 2 * far, 2 * far}}, {-2 * far, []int{-2 * far, -2 * far}},
	{2*far - 1, []int{2 * far, 2*far - 1}}, {1 - 2*far, []int{2 - 2*far, -2 * far}}, {-2*far + 1, []int{3 - 2*far, -2 * far}},
}

// P8.4: of one and two readings all count; of three and more the least and
// the greatest do not; what is halved is rounded down, below 0 too; whoever
// has which reading.
func TestAverage(t *testing.T) {
	for _, x := range averageTable {
		for turn := range len(x.of) {
			for _, back := range []bool{false, true} {
				k := mustNew(t, widest())
				l := append(slices.Clone(x.of[turn:]), x.of[:turn]...)
				if back {
					slices.Reverse(l)
				}
				var members uint16
				for i, n := range l {
					node := (3*i + turn) % 16
					members |= 1 << node
					hears(t, k, node, n)
				}
				averages(t, k, members, -1, x.want)
				averages(t, k, all, -1, x.want)
				averages(t, k, members, -1, x.want)
				averagesNone(t, k, ^members, -1)
			}
		}
	}
}

// P8.4: one of several readings that are the same is left out, not all.
func TestAverageOfSame(t *testing.T) {
	k := mustNew(t, some())
	hearsAll(t, k, 5, 5, 5, 1, 1)
	averages(t, k, 31, -1, 3)
	averages(t, k, 15, -1, 5)
	averages(t, k, 24, -1, 1)
	averages(t, k, 28, -1, 1)
}

// P8.4: who is no member counts nothing, nor does a member without a reading.
func TestAverageOfMembers(t *testing.T) {
	k := mustNew(t, some())
	hears(t, k, 0, 100)
	hears(t, k, 2, 8)
	hears(t, k, 3, 5)
	averages(t, k, 4, -1, 8)
	averages(t, k, 4|2|16, -1, 8)
	averages(t, k, 8|4, -1, 6)
	averages(t, k, 8|4|2, -1, 6)
	averages(t, k, 1|4|8, -1, 8)
	averages(t, k, all, -1, 8)
	averages(t, k, 1, -1, 100)
	averagesNone(t, k, 0, -1)
	averagesNone(t, k, 2|16, -1)
}

// P8.4: bits of nodes that there are not count nothing, own's neither.
func TestAverageOfNoNodes(t *testing.T) {
	k := mustNew(t, some())
	hears(t, k, 1, 8)
	for own := 5; own < 16; own++ {
		averages(t, k, 2, own, 8)
		averages(t, k, all, own, 8)
		averages(t, k, 2|1<<own, own, 8)
		averagesNone(t, k, 1<<own, own)
		averagesNone(t, k, all&^2, own)
	}
	for _, own := range wild {
		averages(t, k, all, own, 8)
		averagesNone(t, k, all&^2, own)
	}
}

// P8.4: own's reading is 0, if it is a member: whatever was heard of it, and
// if nothing was.
func TestAverageOwn(t *testing.T) {
	k := mustNew(t, some())
	for own := range 5 {
		averages(t, k, 1<<own, own, 0)
		averages(t, k, all, own, 0)
		averagesNone(t, k, all&^(1<<own), own)
		averagesNone(t, k, 0, own)
	}
	hearsAll(t, k, 10, 21, 32, 43)
	for own, want := range []int{26, 21, 15, 15, 21} {
		averages(t, k, all, own, want)
		averages(t, k, 1<<own, own, 0)
	}
	averages(t, k, 3, 1, 5)
	averages(t, k, 3, 0, 10)
	averages(t, k, 1, 1, 10)
	averages(t, k, 2, 1, 0)
	averages(t, k, 3|16, 4, 10)
	averages(t, k, 3, 4, 15)
	averages(t, k, all, -1, 26)
}

// P8.4: whoever is asked tells the same again, and the clock stays.
func TestAverageLeavesTheClock(t *testing.T) {
	k := mustNew(t, some())
	sets(t, k, 9)
	hearsAll(t, k, 30, -10, 20, 0, 7)
	for range 3 {
		averages(t, k, all, -1, 10)
		averages(t, k, all, 0, 3)
		averages(t, k, 1, -1, 30)
		averages(t, k, 2, -1, -10)
		stands(t, k, 9)
	}
}
