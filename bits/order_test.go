package bits_test

import (
	"testing"

	"rota/api"
	"rota/bits"
)

// P12.3: the chapter's examples.
func TestOrderOfTheChapter(t *testing.T) {
	isSubsets(t, 5, 2, 10, api.OK)
	isSubsets(t, 61, 1, 0, api.ErrBits)
	isRank(t, 0b110, 2, api.OK)
	isUnrank(t, 2, 2, 6, api.OK)
	isUnrank(t, 0, 1, 0, api.ErrBits)
	isNext(t, 3, 3, 5, true)
	isNext(t, 6, 3, 0, false)
	isNext(t, 0, 5, 0, false)
}

// P12.3: how many there are of each size below each n.
func TestSubsets(t *testing.T) {
	for n := range 61 {
		for k := -3; k <= 70; k++ {
			isSubsets(t, n, k, binomial(n, k), api.OK)
		}
		for _, k := range []int{least, least + 1, -1 << 32, 1 << 32, 1<<32 + 1, most} {
			isSubsets(t, n, k, 0, api.OK)
		}
	}
	isSubsets(t, 0, 0, 1, api.OK)
	isSubsets(t, 60, 30, 118264581564861424, api.OK)
	isSubsets(t, 60, 60, 1, api.OK)
	isSubsets(t, 60, 61, 0, api.OK)
}

// P12.3: an n that is not from 0 to 60: ErrBits, whatever k is.
func TestSubsetsBelowOthers(t *testing.T) {
	for _, n := range append([]int{61, 62, 63}, outside...) {
		for _, k := range []int{0, 1, 30, 60, 61, -1, n, n + 1, least, most} {
			isSubsets(t, n, k, 0, api.ErrBits)
		}
	}
}

// P12.3: how many sets of its size are less: counted, one by one.
func TestRankIsCounted(t *testing.T) {
	var seen [65]uint64
	for s := range uint64(1 << 16) {
		size := len(listed(s))
		isRank(t, s, seen[size], api.OK)
		isUnrank(t, size, seen[size], s, api.OK)
		seen[size]++
	}
}

// rank is how many of as many are less: those that have the same above one of
// its members, and not that one.
func rank(s uint64) uint64 {
	var n uint64
	for below, i := range listed(s) {
		n += binomial(i, below+1)
	}
	return n
}

// P12.3: ranks of greater sets, and the sets of these ranks.
func TestRanksOfGreaterSets(t *testing.T) {
	for _, s := range below(60) {
		isRank(t, s, rank(s), api.OK)
		isUnrank(t, bits.Size(s), rank(s), s, api.OK)
	}
}

// P12.3: the least and the greatest set of each size below 60, and one beyond.
func TestRanksAtTheEnds(t *testing.T) {
	for k := range 61 {
		first := uint64(1)<<k - 1
		last := first << (60 - k)
		isRank(t, first, 0, api.OK)
		isUnrank(t, k, 0, first, api.OK)
		isRank(t, last, binomial(60, k)-1, api.OK)
		isUnrank(t, k, binomial(60, k)-1, last, api.OK)
		for _, more := range []uint64{0, 1, 2, 1 << 32} {
			isUnrank(t, k, binomial(60, k)+more, 0, api.ErrBits)
		}
		isUnrank(t, k, 1<<63, 0, api.ErrBits)
		isUnrank(t, k, 1<<64-1, 0, api.ErrBits)
	}
}

// P12.3: sets that are not below 60: ErrBits.
func TestRankOfOthers(t *testing.T) {
	isRank(t, 1<<60-1, 0, api.OK)
	for i := 60; i < 64; i++ {
		for _, s := range below(60) {
			isRank(t, s|set(i), 0, api.ErrBits)
		}
	}
	isRank(t, 1<<64-1, 0, api.ErrBits)
}

// P12.3: a size that is not from 0 to 60: ErrBits, whatever the rank is.
func TestUnrankOfOtherSizes(t *testing.T) {
	for _, k := range append([]int{61, 62, 63}, outside...) {
		for _, n := range []uint64{0, 1, 60, 1 << 32, 1 << 63, 1<<64 - 1} {
			isUnrank(t, k, n, 0, api.ErrBits)
		}
	}
}

// P12.3: the next one of a size, looked for one by one, below each n.
func TestNextIsLookedFor(t *testing.T) {
	const all = 10
	for s := range uint64(1 << all) {
		for n := range all + 1 {
			want, ok := uint64(0), false
			for x := s + 1; x < 1<<n && !ok; x++ {
				if len(listed(x)) == len(listed(s)) {
					want, ok = x, true
				}
			}
			isNext(t, s, n, want, ok)
		}
	}
}

// next is made of lists: the lowest member that has room above it moves there,
// and those below it go to the lowest places.
func next(s uint64) (uint64, bool) {
	l := listed(s)
	for i, m := range l {
		if m == 63 {
			return 0, false
		}
		if i+1 < len(l) && l[i+1] == m+1 {
			continue
		}
		l[i]++
		for j := range i {
			l[j] = j
		}
		return set(l...), true
	}
	return 0, false
}

// P12.3: the next one of sets of all kinds, below all n of which it is, and
// below no other.
func TestNext(t *testing.T) {
	for _, s := range some() {
		want, ok := next(s)
		top := -1
		if ok {
			l := listed(want)
			top = l[len(l)-1]
		}
		for n := range 65 {
			if ok && top < n {
				isNext(t, s, n, want, true)
			} else {
				isNext(t, s, n, 0, false)
			}
		}
	}
}

// P12.3: the last set of each size below 64 has none behind it, nor has the
// one of nothing; the first one of a size does, below one more than its size.
func TestNextAtTheEnds(t *testing.T) {
	for k := 1; k < 64; k++ {
		first := uint64(1)<<k - 1
		second := first - 1<<(k-1) + 1<<k
		isNext(t, first, k, 0, false)
		isNext(t, first, k+1, second, true)
		isNext(t, first, 64, second, true)
		last := first << (64 - k)
		isNext(t, last, 64, 0, false)
		isNext(t, last, 0, 0, false)
	}
	for n := range 65 {
		isNext(t, 0, n, 0, false)
		isNext(t, 1<<64-1, n, 0, false)
		isNext(t, 1<<63, n, 0, false)
	}
	isNext(t, 1<<62, 64, 1<<63, true)
	isNext(t, 1<<62, 63, 0, false)
}

// P12.3: an n that is not from 0 to 64: there is none.
func TestNextBelowOthers(t *testing.T) {
	for _, n := range outside {
		if n == 64 {
			continue
		}
		for _, s := range []uint64{0, 1, 3, 5, 9, 1 << 40, 1 << 63, 1<<64 - 1} {
			isNext(t, s, n, 0, false)
		}
	}
}
