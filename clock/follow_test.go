package clock_test

import (
	"math/rand"
	"testing"

	"rota/api"
	"rota/clock"
	"rota/config"
)

// anyLimits are of clocks that may be: often the least Margin and Bound.
func anyLimits(r *rand.Rand) api.Config {
	most := []int{1, 2, 5, 100, 1 << 20}[r.Intn(5)]
	c := limited(4+r.Intn(13), r.Intn(most+1), r.Intn(most+1), 0, 0)
	c.Margin = 2*config.Precision(c) + c.Reading
	c.Bound = c.Margin
	return c
}

// atMost is a number from -n to n, often at an end.
func atMost(r *rand.Rand, n int) int {
	return []int{n, -n, r.Intn(2*n+1) - n}[r.Intn(3)]
}

// apart is how far the clocks that are farthest from each other are.
func apart(l []*clock.Clock) int {
	var at []int
	for _, k := range l {
		at = append(at, k.Offset())
	}
	return greatest(at) - least(at)
}

// mustHear is that each of some clocks, k the number from, hears all of them.
// What it reads it also tells.
func mustHear(t *testing.T, r *rand.Rand, l []*clock.Clock, c api.Config, from int) []int {
	t.Helper()
	var told []int
	for node, other := range l {
		if node == from {
			continue
		}
		n := l[from].Read(other.Offset(), atMost(r, c.Reading))
		hears(t, l[from], node, n)
		told = append(told, n)
	}
	return told
}

// P8.5: two that hear the same members, with errors of at most Reading, are
// at most 2 times Reading apart behind their Round, if no average was cut,
// however far they were apart.
func TestTwoThatHearTheSame(t *testing.T) {
	r := rand.New(rand.NewSource(85))
	uncut, farthest := 0, 0
	for range 20000 {
		c := anyLimits(r)
		c.Reading = min(c.Reading, 5)
		var l []*clock.Clock
		middle := atMost(r, far-c.Bound)
		for range c.Nodes {
			k := mustNew(t, c)
			sets(t, k, middle+r.Intn(c.Bound+1)-c.Bound/2)
			l = append(l, k)
		}
		members := uint16(r.Intn(1<<c.Nodes)) | 1<<r.Intn(c.Nodes)
		for node := range 2 {
			mustHear(t, r, l, c, node)
		}
		isCut := false
		for node := range 2 {
			want, _ := l[node].Average(members, node)
			by, _ := l[node].Round(members, node)
			isCut = isCut || by != want
		}
		if isCut {
			continue
		}
		uncut++
		n := apart(l[:2])
		if n > 2*c.Reading {
			t.Errorf("%d apart, Reading %d", n, c.Reading)
		}
		farthest = max(farthest, n)
	}
	if uncut < 1000 || farthest < 8 {
		t.Errorf("%d were not cut, and at most %d apart", uncut, farthest)
	}
}

// P8.5: clocks that begin together, drift and hear each other are at most
// Precision apart at any time; all readings fit, and no average is cut.
func TestClocksThatStayTogether(t *testing.T) {
	r := rand.New(rand.NewSource(58))
	farthest := 0
	for range 400 {
		c := anyLimits(r)
		var l []*clock.Clock
		begin := []int{0, far, -far, far - 3, atMost(r, far)}[r.Intn(5)]
		for range c.Nodes {
			k := mustNew(t, c)
			sets(t, k, begin)
			l = append(l, k)
		}
		together := func() {
			n := apart(l)
			if n > config.Precision(c) {
				t.Errorf("%d apart, Precision %d", n, config.Precision(c))
			}
			if c.Drift == 1 && c.Reading == 1 {
				farthest = max(farthest, n)
			}
		}
		for range 40 {
			aRound(t, r, l, c, together)
		}
	}
	if farthest < 4 {
		t.Errorf("with 1 and 1 at most %d apart", farthest)
	}
}

// aRound drifts the clocks, lets them hear each other, and ends a round.
func aRound(t *testing.T, r *rand.Rand, l []*clock.Clock, c api.Config, together func()) {
	t.Helper()
	for _, k := range l {
		k.Drift(atMost(r, c.Drift))
		together()
	}
	for node, k := range l {
		for _, n := range mustHear(t, r, l, c, node) {
			fits(t, k, n, true)
		}
	}
	for node, k := range l {
		want, _ := k.Average(all, node)
		rounds(t, k, all, node, want)
		if cutTo(want, c.Bound) != want {
			t.Errorf("average %d, bound %d", want, c.Bound)
		}
	}
	together()
}
