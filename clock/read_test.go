package clock_test

import (
	"math"
	"testing"

	"rota/api"
)

// P8.2: the chapter's example.
func TestReadExample(t *testing.T) {
	k := mustNew(t, chapters())
	drifts(t, k, 5, 1)
	reads(t, k, 4, -7, 2)
}

// P8.2: another offset, less one's own, and the misreading.
func TestRead(t *testing.T) {
	k := mustNew(t, some())
	for _, own := range []int{0, 1, -1, 100, -1000, far, -far} {
		sets(t, k, own)
		for _, other := range []int{0, 1, -1, 7, -100, 1 << 32, far, -far} {
			for misread := -6; misread <= 6; misread++ {
				reads(t, k, other, misread, other-own+misread)
			}
			for _, misread := range []int{7, 100, 1 << 32, math.MaxInt} {
				reads(t, k, other, misread, other-own+6)
				reads(t, k, other, -misread, other-own-6)
			}
			reads(t, k, other, math.MinInt, other-own-6)
		}
	}
}

// P8.2: the other offset is cut to what an offset may be; what is told is
// not.
func TestReadFarOnes(t *testing.T) {
	for _, c := range []struct {
		of      api.Config
		misread int
	}{{exact(), 0}, {widest(), 1 << 20}} {
		k := mustNew(t, c.of)
		for _, own := range []int{0, far, -far} {
			sets(t, k, own)
			for _, other := range []int{far, far + 1, 2 * far, 1 << 62, math.MaxInt} {
				reads(t, k, other, math.MaxInt, far-own+c.misread)
				reads(t, k, other, math.MinInt, far-own-c.misread)
				reads(t, k, -other, math.MaxInt, -far-own+c.misread)
				reads(t, k, -other, math.MinInt, -far-own-c.misread)
			}
			reads(t, k, math.MinInt, 0, -far-own)
		}
	}
}

// P8.2: reading is not hearing, nor does it touch the clock.
func TestReadLeavesTheClock(t *testing.T) {
	k := mustNew(t, some())
	sets(t, k, 3)
	hears(t, k, 1, 4)
	for range 3 {
		reads(t, k, 7, 9, 10)
		stands(t, k, 3)
		averages(t, k, all, -1, 4)
	}
}

// P8.2: a reading fits from -Margin to Margin, wherever the clock stands.
func TestFits(t *testing.T) {
	for _, c := range []api.Config{chapters(), some(), widest(), exact()} {
		k := mustNew(t, c)
		for _, offset := range []int{0, 1, c.Margin, -c.Margin, far} {
			sets(t, k, offset)
			for _, n := range []int{0, 1, -1, c.Margin - 1, 1 - c.Margin, c.Margin, -c.Margin} {
				fits(t, k, n, true)
			}
			for _, n := range []int{c.Margin + 1, -c.Margin - 1, 1 << 32, -1 << 32, math.MaxInt, math.MinInt, math.MinInt + 1} {
				fits(t, k, n, false)
			}
		}
	}
}
