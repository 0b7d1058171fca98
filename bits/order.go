package bits

import "rota/api"

// limit is what sets that have a rank are below. There are fewer of each size
// than 64 bits can tell.
const limit = 60

// Subsets is how many sets of size k there are below n.
func Subsets(n, k int) (uint64, api.Errno) {
	switch {
	case n < 0 || n > limit:
		return 0, api.ErrBits
	case k < 0 || k > n:
		return 0, api.OK
	}
	return subsets()[n][k], api.OK
}

// Rank is how many sets of a set's size are less than it.
func Rank(s uint64) (uint64, api.Errno) {
	if !isBelow(s, limit) {
		return 0, api.ErrBits
	}
	table := subsets()
	var rank uint64
	k := 0
	for i := range members(s) {
		k++
		// Those that have the same above i, but not i itself, have k below i.
		rank += table[i][k]
	}
	return rank, api.OK
}

// Unrank is the set below 60 of a size and a rank.
func Unrank(k int, rank uint64) (uint64, api.Errno) {
	if k < 0 || k > limit {
		return 0, api.ErrBits
	}
	table := subsets()
	if rank >= table[limit][k] {
		return 0, api.ErrBits
	}
	var s uint64
	for i := limit - 1; i >= 0; i-- {
		// The sets that do without i are less than those that have it.
		if without := table[i][k]; rank >= without {
			rank -= without
			s |= 1 << i
			k--
		}
	}
	return s, api.OK
}

// Next is the least set below n that is greater than s and has as many; false,
// if there is none.
func Next(s uint64, n int) (uint64, bool) {
	if n < 0 || n > width {
		return 0, false
	}
	// The highest member of the lowest run moves up, and what is left of that run
	// goes down to the lowest places. If that member is 63, it has nowhere to go,
	// and raised is 0, as it is of nothing.
	lowest := s & -s
	raised := s + lowest
	if raised == 0 {
		return 0, false
	}
	left := (s ^ raised) / lowest >> 2
	next := raised | left
	if !isBelow(next, n) {
		return 0, false
	}
	return next, true
}

// isBelow says whether a set has none of n and above.
func isBelow(s uint64, n int) bool { return s>>n == 0 }

// subsets is, of each n and k, how many sets of size k there are below n: those
// without the highest number below n, and those with it.
func subsets() [limit + 1][limit + 1]uint64 {
	var l [limit + 1][limit + 1]uint64
	for n := range l {
		l[n][0] = 1
		for k := 1; k <= n; k++ {
			l[n][k] = l[n-1][k-1] + l[n-1][k]
		}
	}
	return l
}
