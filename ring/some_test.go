package ring_test

import (
	"math/big"
	"math/rand"
	"testing"

	"rota/api"
	"rota/ring"
)

// The ends of all ints, and of the numbers that are put together.
const (
	most  = 1<<63 - 1
	least = -1 << 63
	high  = 1<<31 - 1
	low   = -1 << 31
)

// noRings are of numbers of places that no ring has.
var noRings = []int{0, -1, -5, least, low, 1<<20 + 1, 1 << 21, 1 << 32, 1<<32 + 5, most}

// ends are numbers about those at which something could turn.
var ends = []int{least, least + 1, least + 7, low - 1, low, low + 1, -1 << 20, -7, -2, -1, 0, 1, 2, 5, 1 << 20, high - 1, high, high + 1, 1 << 40, most - 7, most - 1, most}

// placeOf is a number's, by numbers that are as great as need be.
func placeOf(a, n int) int {
	m := new(big.Int).Mod(big.NewInt(int64(a)), big.NewInt(int64(n)))
	return int(m.Int64())
}

// stepsOf are told by going on, step by step.
func stepsOf(a, b, n int) int {
	from, to := placeOf(a, n), placeOf(b, n)
	count := 0
	for from != to {
		count++
		if from++; from == n {
			from = 0
		}
	}
	return count
}

// within is told by going on, step by step.
func within(a, x, b, n int) bool {
	at, seen, end := placeOf(a, n), placeOf(x, n), placeOf(b, n)
	for {
		if at == seen {
			return true
		}
		if at == end {
			return false
		}
		at = (at + 1) % n
	}
}

// inSome says, place by place, whether it is in one of the arcs.
func inSome(l []api.Arc, n int) []bool {
	is := make([]bool, n)
	for _, a := range l {
		for i := range a.Len {
			is[(a.From+i)%n] = true
		}
	}
	return is
}

// meet says whether a place is in both.
func meet(a, b api.Arc, n int) bool {
	in, also := inSome([]api.Arc{a}, n), inSome([]api.Arc{b}, n)
	for p := range n {
		if in[p] && also[p] {
			return true
		}
	}
	return false
}

// meetsNone says whether an arc does.
func meetsNone(a api.Arc, l []api.Arc, n int) bool {
	for _, b := range l {
		if meet(a, b, n) {
			return false
		}
	}
	return true
}

// covered is how many places are in one of the arcs, or more.
func covered(l []api.Arc, n int) int {
	count := 0
	for _, is := range inSome(l, n) {
		if is {
			count++
		}
	}
	return count
}

// gapsOf are, of all arcs there may be, those that meet none and cannot be longer
// on either side.
func gapsOf(l []api.Arc, n int) []api.Arc {
	is := inSome(l, n)
	if covered(l, n) == 0 {
		return []api.Arc{{From: 0, Len: n}}
	}
	var gaps []api.Arc
	for from := range n {
		size := 0
		for !is[(from+size)%n] {
			size++
		}
		if size > 0 && is[(from+n-1)%n] {
			gaps = append(gaps, api.Arc{From: from, Len: size})
		}
	}
	return gaps
}

// fit tries all places.
func fit(l []api.Arc, size, n int) (int, api.Errno) {
	if size < 1 || size > n {
		return 0, api.ErrArg
	}
	is := inSome(l, n)
place:
	for from := range n {
		for i := range size {
			if is[(from+i)%n] {
				continue place
			}
		}
		return from, api.OK
	}
	return 0, api.ErrArg
}

// arcs are all that there are of a ring.
func arcs(n int) []api.Arc {
	var l []api.Arc
	for from := range n {
		for size := range n + 1 {
			l = append(l, api.Arc{From: from, Len: size})
		}
	}
	return l
}

// noArcs are none of a ring's.
func noArcs(n int) []api.Arc {
	return []api.Arc{
		{From: -1, Len: 1}, {From: n, Len: 0}, {From: n, Len: 1}, {From: 0, Len: -1}, {From: 0, Len: n + 1},
		{From: n - 1, Len: n + 1}, {From: n - 1, Len: -1}, {From: least, Len: 0}, {From: most, Len: 0},
		{From: 0, Len: least}, {From: 0, Len: most}, {From: most, Len: most}, {From: least, Len: least},
	}
}

// course is one of rings and their arcs.
type course struct {
	n int
	l []api.Arc
}

// some are rings with arcs of all kinds: none, one, all pairs of small ones, and
// more by chance, long and short ones.
func some() []course {
	var l []course
	for n := 1; n <= 5; n++ {
		l = append(l, course{n, nil}, course{n, []api.Arc{}})
		for _, a := range arcs(n) {
			l = append(l, course{n, []api.Arc{a}})
			for _, b := range arcs(n) {
				l = append(l, course{n, []api.Arc{a, b}})
			}
		}
	}
	r := rand.New(rand.NewSource(13))
	for range 4000 {
		n := 1 + r.Intn(24)
		c := course{n: n}
		longest := 1 + r.Intn(n)
		for range r.Intn(6) {
			c.l = append(c.l, api.Arc{From: r.Intn(n), Len: r.Intn(longest + 1)})
		}
		l = append(l, c)
	}
	return l
}

// Each of these ends the test if there is an error.

func mustPlace(t *testing.T, a, n int) int {
	t.Helper()
	p, err := ring.Place(a, n)
	if err != api.OK {
		t.Fatalf("place of %d, of %d: %v", a, n, err)
	}
	return p
}

func mustSteps(t *testing.T, a, b, n int) int {
	t.Helper()
	s, err := ring.Steps(a, b, n)
	if err != api.OK {
		t.Fatalf("steps from %d to %d, of %d: %v", a, b, n, err)
	}
	return s
}

func mustGaps(t *testing.T, l []api.Arc, n int) []api.Arc {
	t.Helper()
	gaps, err := ring.Gaps(l, n)
	if err != api.OK {
		t.Fatalf("gaps of %v, of %d: %v", l, n, err)
	}
	return gaps
}

// Each of these tells of any other answer than the one that is wanted.

func isPlace(t *testing.T, a, n, want int, err api.Errno) {
	t.Helper()
	if p, e := ring.Place(a, n); p != want || e != err {
		t.Errorf("place of %d, of %d: %d, %v, not %d, %v", a, n, p, e, want, err)
	}
}

func isSteps(t *testing.T, a, b, n, want int, err api.Errno) {
	t.Helper()
	if s, e := ring.Steps(a, b, n); s != want || e != err {
		t.Errorf("steps from %d to %d, of %d: %d, %v, not %d, %v", a, b, n, s, e, want, err)
	}
}

func isWithin(t *testing.T, a, x, b, n int, want bool, err api.Errno) {
	t.Helper()
	if is, e := ring.Within(a, x, b, n); is != want || e != err {
		t.Errorf("%d from %d to %d, of %d: %v, %v, not %v, %v", x, a, b, n, is, e, want, err)
	}
}

func isMeet(t *testing.T, a, b api.Arc, n int, want bool, err api.Errno) {
	t.Helper()
	if is, e := ring.Meet(a, b, n); is != want || e != err {
		t.Errorf("%v and %v, of %d: %v, %v, not %v, %v", a, b, n, is, e, want, err)
	}
}

func isCovered(t *testing.T, l []api.Arc, n, want int, err api.Errno) {
	t.Helper()
	if x, e := ring.Covered(l, n); x != want || e != err {
		t.Errorf("covered by %v, of %d: %d, %v, not %d, %v", l, n, x, e, want, err)
	}
}

func isGaps(t *testing.T, l []api.Arc, n int, want []api.Arc, err api.Errno) {
	t.Helper()
	x, e := ring.Gaps(l, n)
	if !same(x, want) || e != err {
		t.Errorf("gaps of %v, of %d: %v, %v, not %v, %v", l, n, x, e, want, err)
	}
}

func isFit(t *testing.T, l []api.Arc, size, n, want int, err api.Errno) {
	t.Helper()
	if x, e := ring.Fit(l, size, n); x != want || e != err {
		t.Errorf("fit of %d in %v, of %d: %d, %v, not %d, %v", size, l, n, x, e, want, err)
	}
}

func isLcm(t *testing.T, a, b, want int, err api.Errno) {
	t.Helper()
	if x, e := ring.Lcm(a, b); x != want || e != err {
		t.Errorf("lcm of %d and %d: %d, %v, not %d, %v", a, b, x, e, want, err)
	}
}

func isHyper(t *testing.T, l []int, want int, err api.Errno) {
	t.Helper()
	if x, e := ring.Hyper(l); x != want || e != err {
		t.Errorf("hyper of %v: %d, %v, not %d, %v", l, x, e, want, err)
	}
}

func isFalls(t *testing.T, period, offset, from, to, want int, err api.Errno) {
	t.Helper()
	if x, e := ring.Falls(period, offset, from, to); x != want || e != err {
		t.Errorf("falls of %d and %d from %d to %d: %d, %v, not %d, %v", period, offset, from, to, x, e, want, err)
	}
}

// same says whether lists of arcs are, one by one.
func same(a, b []api.Arc) bool {
	if len(a) != len(b) {
		return false
	}
	for i := range a {
		if a[i] != b[i] {
			return false
		}
	}
	return true
}
