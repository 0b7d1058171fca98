package place_test

import (
	"math/rand"
	"testing"

	"rota/api"
	"rota/place"
)

// P16.5: no two sizes that were placed meet, nor does one meet what was taken; and
// each is where it may be.
func TestNoTwoMeet(t *testing.T) {
	r := rand.New(rand.NewSource(5))
	placed := 0
	for _, c := range some() {
		align := 1 + r.Intn(4)
		sizes := make([]int, 1+r.Intn(5))
		for i := range sizes {
			sizes[i] = r.Intn(5)
		}
		places, err := place.Fit(c.taken, sizes, align, c.limit)
		if err != api.OK {
			continue
		}
		placed++
		by := make([]bool, c.limit)
		for i, at := range places {
			if at < 0 || at%align != 0 || at+sizes[i] > c.limit {
				t.Fatalf("%v in %v, limit %d: %v", sizes, c.taken, c.limit, places)
			}
			for p := at; p < at+sizes[i]; p++ {
				if by[p] || isTaken(c.taken, p) {
					t.Fatalf("%v in %v, limit %d: %v meet at %d", sizes, c.taken, c.limit, places, p)
				}
				by[p] = true
			}
		}
	}
	if placed < 500 {
		t.Errorf("only %d were placed", placed)
	}
}

// P16.5: with align 1 there is a place just for what is not more than the greatest
// free span has.
func TestFirstJustToTheMost(t *testing.T) {
	for _, c := range some() {
		greatest := place.Most(c.taken, c.limit)
		for size := range 45 {
			if at, is := place.First(c.taken, size, 1, c.limit); is != (size <= greatest) {
				t.Errorf("%d in %v, limit %d: %d, %v; most is %d", size, c.taken, c.limit, at, is, greatest)
			}
		}
	}
}

// P16.5: the free spans are where sizes as great as they are go.
func TestFreeSpansAreFilled(t *testing.T) {
	for _, c := range some() {
		taken := append([]api.Span{}, c.taken...)
		for _, s := range place.Free(c.taken, c.limit) {
			if s.From > 0 && !isTaken(taken, s.From-1) || s.To < c.limit && !isTaken(taken, s.To) {
				t.Errorf("%v in %v, limit %d is not whole", s, c.taken, c.limit)
			}
			taken = append(taken, s)
		}
		isMost(t, taken, c.limit, 0)
	}
}
