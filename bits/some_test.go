package bits_test

import (
	"math/big"
	"math/rand"
	"slices"
	"testing"

	"rota/api"
	"rota/bits"
)

// least and most are the ends of all ints.
const (
	most  = 1<<63 - 1
	least = -1 << 63
)

// outside are numbers that no set has: those beside 0 and 63, such as shifts
// could take for others, and the ends.
var outside = []int{-1, 64, -2, 65, 127, 128, -63, -64, -65, 255, 256, 1 << 31, 1 << 32, -1 << 31, -1 << 32, most, least, least + 1, least + 5}

// has is, number by number, what a set has. Everything else that tests hold
// answers against is made of it.
func has(s uint64) [64]bool {
	var l [64]bool
	for i := range l {
		l[i] = s%2 == 1
		s /= 2
	}
	return l
}

// listed is what a set has, rising.
func listed(s uint64) []int {
	var l []int
	for i, is := range has(s) {
		if is {
			l = append(l, i)
		}
	}
	return l
}

// set is of the numbers that are handed in.
func set(l ...int) uint64 {
	var s uint64
	one := uint64(1)
	for i := range 64 {
		if slices.Contains(l, i) {
			s += one
		}
		one *= 2
	}
	return s
}

// binomial is how many sets of size k there are below n.
func binomial(n, k int) uint64 {
	if k < 0 || k > n {
		return 0
	}
	return new(big.Int).Binomial(int64(n), int64(k)).Uint64()
}

// small are all sets below 14.
func small() []uint64 {
	var l []uint64
	for s := range uint64(1 << 14) {
		l = append(l, s)
	}
	return l
}

// some are sets of all kinds: single members, all stretches, what these leave,
// and others by chance, of many members, of some, and of few.
func some() []uint64 {
	l := []uint64{0, 1<<64 - 1, 0x5555555555555555, 0xAAAAAAAAAAAAAAAA, 0x8000000000000001, 1<<60 - 1, 1 << 60, 1<<60 + 1}
	for from := range 64 {
		run := uint64(0)
		for to := from; to < 64; to++ {
			run |= 1 << to
			l = append(l, run, ^run)
		}
	}
	r := rand.New(rand.NewSource(12))
	for range 2000 {
		a, b, c := r.Uint64(), r.Uint64(), r.Uint64()
		l = append(l, a, a&b, a&b&c, a|b, a|b|c)
	}
	return l
}

// below are those of some that are below n, and what the others have of it.
func below(n int) []uint64 {
	l := some()
	for i := range l {
		l[i] &= 1<<n - 1
	}
	return l
}

// mustOf ends the test if there is an error.
func mustOf(t *testing.T, l ...int) uint64 {
	t.Helper()
	s, err := bits.Of(l)
	if err != api.OK {
		t.Fatalf("of %v: %v", l, err)
	}
	return s
}

// mustRank ends the test if there is an error.
func mustRank(t *testing.T, s uint64) uint64 {
	t.Helper()
	n, err := bits.Rank(s)
	if err != api.OK {
		t.Fatalf("rank of %b: %v", s, err)
	}
	return n
}

// Each of these tells of any other answer than the one that is wanted.

func isFrom(t *testing.T, s uint64, i int, want int, ok bool) {
	t.Helper()
	if m, is := bits.From(s, i); m != want || is != ok {
		t.Errorf("from %d in %b: %d %v, not %d %v", i, s, m, is, want, ok)
	}
}

func isSubsets(t *testing.T, n, k int, want uint64, err api.Errno) {
	t.Helper()
	if x, e := bits.Subsets(n, k); x != want || e != err {
		t.Errorf("%d below %d: %d, %v, not %d, %v", k, n, x, e, want, err)
	}
}

func isRank(t *testing.T, s uint64, want uint64, err api.Errno) {
	t.Helper()
	if x, e := bits.Rank(s); x != want || e != err {
		t.Errorf("rank of %b: %d, %v, not %d, %v", s, x, e, want, err)
	}
}

func isUnrank(t *testing.T, k int, rank uint64, want uint64, err api.Errno) {
	t.Helper()
	if x, e := bits.Unrank(k, rank); x != want || e != err {
		t.Errorf("of size %d, rank %d: %b, %v, not %b, %v", k, rank, x, e, want, err)
	}
}

func isNext(t *testing.T, s uint64, n int, want uint64, ok bool) {
	t.Helper()
	if x, is := bits.Next(s, n); x != want || is != ok {
		t.Errorf("behind %b below %d: %b %v, not %b %v", s, n, x, is, want, ok)
	}
}
