package place

import (
	"cmp"
	"iter"
	"slices"

	"rota/api"
)

// free are the spans ahead of a limit that nothing takes, rising.
func free(taken []api.Span, limit int) iter.Seq[api.Span] {
	return func(yield func(api.Span) bool) {
		at := 0
		for _, t := range rising(taken, limit) {
			if t.From > at && !yield(api.Span{From: at, To: t.From}) {
				return
			}
			at = max(at, t.To)
		}
		if at < limit {
			yield(api.Span{From: at, To: limit})
		}
	}
}

// rising are those that take a place from 0 on, ahead of a limit, by where they begin.
func rising(taken []api.Span, limit int) []api.Span {
	var l []api.Span
	for _, t := range taken {
		if t.From < t.To && t.From < limit && t.To > 0 {
			l = append(l, t)
		}
	}
	slices.SortFunc(l, func(a, b api.Span) int { return cmp.Compare(a.From, b.From) })
	return l
}

// up is the least multiple of a step that is not below a number.
func up[N ~int | ~int32 | ~int64](n, step N) N { return (n + step - 1) / step * step }
