package ring

import (
	"iter"
	"slices"

	"rota/api"
)

// Meet says whether a place is in both arcs.
func Meet(a, b api.Arc, n int) (bool, api.Errno) {
	if !isRing(n) || !isArc(a, n) || !isArc(b, n) {
		return false, api.ErrRing
	}
	// If they do, one of them begins within the other one.
	return a.Len > 0 && has(b, a.From, n) || b.Len > 0 && has(a, b.From, n), api.OK
}

// Covered is how many places are in one of the arcs, or more.
func Covered(l []api.Arc, n int) (int, api.Errno) {
	if !areArcs(l, n) {
		return 0, api.ErrRing
	}
	count := 0
	for _, is := range taken(l, n) {
		if is {
			count++
		}
	}
	return count, api.OK
}

// Gaps are the arcs of places that are in none, as long as can be, by From,
// rising.
func Gaps(l []api.Arc, n int) ([]api.Arc, api.Errno) {
	if !areArcs(l, n) {
		return nil, api.ErrRing
	}
	return gaps(taken(l, n)), api.OK
}

// Fit is the least place from which on an arc of that size meets none.
func Fit(l []api.Arc, size, n int) (int, api.Errno) {
	switch {
	case !areArcs(l, n):
		return 0, api.ErrRing
	case size < 1 || size > n:
		return 0, api.ErrArg
	}
	least := n
	for _, gap := range gaps(taken(l, n)) {
		// It may begin in more than one place, the least of which lies behind the
		// end, if the gap goes round it.
		for from := range places(api.Arc{From: gap.From, Len: gap.Len - size + 1}, n) {
			least = min(least, from)
		}
	}
	if least == n {
		return 0, api.ErrArg
	}
	return least, api.OK
}

func isArc(a api.Arc, n int) bool {
	return a.From >= 0 && a.From < n && a.Len >= 0 && a.Len <= n
}

// areArcs says whether the ring may be, and each of the arcs.
func areArcs(l []api.Arc, n int) bool {
	if !isRing(n) {
		return false
	}
	for _, a := range l {
		if !isArc(a, n) {
			return false
		}
	}
	return true
}

// has says whether a place is in an arc.
func has(a api.Arc, p, n int) bool { return steps(a.From, p, n) < a.Len }

// places tells an arc's, from its first one on, round the end.
func places(a api.Arc, n int) iter.Seq[int] {
	return func(yield func(int) bool) {
		p := a.From
		for range a.Len {
			if !yield(p) {
				return
			}
			if p++; p == n {
				p = 0
			}
		}
	}
}

// taken is, of each place, whether it is in one of the arcs.
func taken(l []api.Arc, n int) []bool {
	// By where they begin, each arc needs to be gone through no more than behind
	// the end of those ahead of it: so many long ones take no longer than one.
	arcs := slices.Clone(l)
	slices.SortFunc(arcs, func(a, b api.Arc) int { return a.From - b.From })
	is := make([]bool, n)
	end := 0
	for _, a := range arcs {
		from, to := max(a.From, end), a.From+a.Len
		for p := range places(api.Arc{From: place(from, n), Len: to - from}, n) {
			is[p] = true
		}
		end = max(end, to)
	}
	return is
}

// gaps are the arcs of places that are not taken, as long as can be, rising.
func gaps(taken []bool) []api.Arc {
	n := len(taken)
	from := 0
	if !taken[n-1] {
		// What lies ahead of the first one that is taken (if one is) belongs to the
		// gap that goes round the end.
		from = slices.Index(taken, true) + 1
	}
	var l []api.Arc
ring:
	for from < n {
		gap := api.Arc{From: from}
		for p := range places(api.Arc{From: from, Len: n}, n) {
			if !taken[p] {
				gap.Len++
				continue
			}
			if gap.Len > 0 {
				l = append(l, gap)
			}
			if p < from {
				break ring
			}
			from = p + 1
			continue ring
		}
		// It has come round, and no place is taken.
		return []api.Arc{gap}
	}
	return l
}
