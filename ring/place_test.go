package ring_test

import (
	"testing"

	"rota/api"
	"rota/ring"
)

// P13.1: the chapter's examples.
func TestPlacesOfTheChapter(t *testing.T) {
	isPlace(t, -1, 5, 4, api.OK)
	isSteps(t, 4, 1, 5, 2, api.OK)
	isWithin(t, 4, 0, 1, 5, true, api.OK)
	isWithin(t, 1, 0, 4, 5, false, api.OK)
}

// P13.1: a number's place is the number modulo n, below 0 too.
func TestPlace(t *testing.T) {
	for n := 1; n <= 12; n++ {
		// From -36 on places follow one another, round the end.
		want := placeOf(-36, n)
		for a := -36; a <= 36; a++ {
			isPlace(t, a, n, want, api.OK)
			want = (want + 1) % n
		}
	}
	isPlace(t, 0, 7, 0, api.OK)
	isPlace(t, 7, 7, 0, api.OK)
	isPlace(t, -7, 7, 0, api.OK)
	isPlace(t, -8, 7, 6, api.OK)
}

// P13.1: so it is at the ends of all numbers, and of the greatest ring.
func TestPlaceAtTheEnds(t *testing.T) {
	for _, n := range []int{1, 2, 3, 7, 1<<20 - 1, 1 << 20} {
		for _, a := range ends {
			isPlace(t, a, n, placeOf(a, n), api.OK)
		}
	}
	isPlace(t, -1, 1<<20, 1<<20-1, api.OK)
	isPlace(t, 1<<20, 1<<20, 0, api.OK)
}

// P13.1: steps are as many as it is on to b's place, never back.
func TestSteps(t *testing.T) {
	for n := 1; n <= 7; n++ {
		for a := -9; a <= 9; a++ {
			for b := -9; b <= 9; b++ {
				isSteps(t, a, b, n, stepsOf(a, b, n), api.OK)
			}
		}
	}
	isSteps(t, 1, 4, 5, 3, api.OK)
	isSteps(t, 3, 3, 5, 0, api.OK)
	isSteps(t, 3, 8, 5, 0, api.OK)
}

// P13.1: so it is at the ends of all numbers, whose difference no int tells.
func TestStepsAtTheEnds(t *testing.T) {
	for _, n := range []int{1, 2, 3, 5, 7, 1000} {
		for _, a := range ends {
			for _, b := range ends {
				isSteps(t, a, b, n, stepsOf(a, b, n), api.OK)
			}
		}
	}
	isSteps(t, 0, -1, 1<<20, 1<<20-1, api.OK)
	isSteps(t, 1<<20-1, 0, 1<<20, 1, api.OK)
}

// P13.1: within is what is come to, from a's place on, not behind b's.
func TestWithin(t *testing.T) {
	for n := 1; n <= 6; n++ {
		for a := -7; a <= 7; a++ {
			for b := -7; b <= 7; b++ {
				for x := -7; x <= 7; x++ {
					isWithin(t, a, x, b, n, within(a, x, b, n), api.OK)
				}
			}
		}
	}
}

// P13.1: both ends are within; from a place to itself it is alone.
func TestWithinItsEnds(t *testing.T) {
	for n := 1; n <= 9; n++ {
		for a := range n {
			for b := range n {
				isWithin(t, a, a, b, n, true, api.OK)
				isWithin(t, a, b, b, n, true, api.OK)
				isWithin(t, a, b, a, n, a == b, api.OK)
				isWithin(t, a, b, a-1, n, true, api.OK)
			}
		}
	}
	for _, a := range ends {
		for _, b := range ends {
			for _, x := range ends {
				isWithin(t, a, x, b, 7, within(a, x, b, 7), api.OK)
			}
		}
	}
}

// P13.1: of rings that may not be there are no places.
func TestPlacesOfNoRing(t *testing.T) {
	for _, n := range noRings {
		for _, a := range []int{0, 1, -1, most, least} {
			isPlace(t, a, n, 0, api.ErrRing)
			isSteps(t, a, a, n, 0, api.ErrRing)
			isSteps(t, a, a-1, n, 0, api.ErrRing)
			isWithin(t, a, a, a, n, false, api.ErrRing)
			isWithin(t, a, 0, 1, n, false, api.ErrRing)
		}
	}
}

// P13.1: the least and the greatest ring may be.
func TestEndsOfRings(t *testing.T) {
	for _, n := range []int{1, 2, api.MaxRing - 1, api.MaxRing} {
		if p, err := ring.Place(n-1, n); p != n-1 || err != api.OK {
			t.Errorf("of %d: %d, %v", n, p, err)
		}
		isSteps(t, 0, n-1, n, n-1, api.OK)
		isWithin(t, 0, n-1, n-1, n, true, api.OK)
	}
}
