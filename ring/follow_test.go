package ring_test

import (
	"math/rand"
	"testing"

	"rota/api"
	"rota/ring"
)

// P13.6: steps there and back are 0 or n together.
func TestThereAndBack(t *testing.T) {
	numbers := append([]int{3, 4, -3, 12, 1000}, ends...)
	for _, n := range []int{1, 2, 3, 5, 8, 1000, api.MaxRing} {
		for _, a := range numbers {
			for _, b := range numbers {
				want := n
				if mustPlace(t, a, n) == mustPlace(t, b, n) {
					want = 0
				}
				if s := mustSteps(t, a, b, n) + mustSteps(t, b, a, n); s != want {
					t.Errorf("%d and %d, of %d: %d, not %d", a, b, n, s, want)
				}
			}
		}
	}
}

// P13.6: steps on and on are, modulo n, the steps of the whole.
func TestOnAndOn(t *testing.T) {
	r := rand.New(rand.NewSource(136))
	for range 20000 {
		n := 1 + r.Intn(1<<(1+r.Intn(20)))
		way := []int{int(r.Uint64())}
		sum := 0
		for range r.Intn(6) {
			next := int(r.Uint64())
			sum += mustSteps(t, way[len(way)-1], next, n)
			way = append(way, next)
		}
		if s := mustSteps(t, way[0], way[len(way)-1], n); s != sum%n {
			t.Errorf("%v, of %d: %d, not %d", way, n, s, sum%n)
		}
	}
}

// P13.6: what is covered and the gaps are all places, and have none in common.
func TestCoveredAndGapsAreAll(t *testing.T) {
	for _, c := range some() {
		count, err := ring.Covered(c.l, c.n)
		if err != api.OK {
			t.Fatal(c, err)
		}
		gaps := mustGaps(t, c.l, c.n)
		for _, gap := range gaps {
			count += gap.Len
			if !meetsNone(gap, c.l, c.n) {
				t.Errorf("%v, of %d: gap %v", c.l, c.n, gap)
			}
		}
		if count != c.n {
			t.Errorf("%v, of %d: gaps %v, in all %d", c.l, c.n, gaps, count)
		}
		isCovered(t, append(gaps, c.l...), c.n, c.n, api.OK)
	}
}

// P13.6: what fits meets nothing, and nothing ahead of it fits; if nothing fits,
// nothing does anywhere.
func TestFitIsTheFirst(t *testing.T) {
	for _, c := range some() {
		for size := 1; size <= c.n; size++ {
			from, err := ring.Fit(c.l, size, c.n)
			ahead := from
			switch err {
			case api.OK:
				if !meetsNone(api.Arc{From: from, Len: size}, c.l, c.n) {
					t.Errorf("%v, of %d: %d at %d", c.l, c.n, size, from)
				}
			case api.ErrArg:
				ahead = c.n
			default:
				t.Fatal(c, err)
			}
			for p := range ahead {
				if meetsNone(api.Arc{From: p, Len: size}, c.l, c.n) {
					t.Errorf("%v, of %d: %d at %d, not %d", c.l, c.n, size, p, from)
				}
			}
		}
	}
}

// P13.6: in each stretch as long as the period falls just one.
func TestOneFallsInEach(t *testing.T) {
	r := rand.New(rand.NewSource(1366))
	for range 50000 {
		period := 1 + r.Intn(1<<(1+r.Intn(30)))
		offset := low + r.Intn(1<<32)
		from := low + r.Intn(1<<32-period)
		isFalls(t, period, offset, from, from+period, 1, api.OK)
	}
	for _, period := range []int{1, 2, high - 1, high} {
		for _, offset := range []int{low, -1, 0, 1, high} {
			for _, from := range []int{low, -period, -1, 0, high - period} {
				isFalls(t, period, offset, from, from+period, 1, api.OK)
			}
		}
	}
}
