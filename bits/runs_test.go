package bits_test

import (
	"slices"
	"testing"

	"rota/api"
	"rota/bits"
)

// P12.2: the chapter's examples.
func TestMajorityOfTheChapter(t *testing.T) {
	if !bits.Majority(3, 7) || bits.Majority(3, 15) || bits.Majority(0, 0) {
		t.Error(bits.Majority(3, 7), bits.Majority(3, 15), bits.Majority(0, 0))
	}
}

// isMajority counts both, number by number.
func isMajority(part, whole uint64) bool {
	in, out := 0, 0
	p := has(part)
	for i, is := range has(whole) {
		switch {
		case is && p[i]:
			in++
		case is:
			out++
		}
	}
	return in > out
}

// P12.2: all pairs of sets below 7, and others with them, at the highest
// numbers, too.
func TestMajority(t *testing.T) {
	tells := func(part, whole uint64) {
		if want := isMajority(part, whole); bits.Majority(part, whole) != want {
			t.Errorf("%b of %b: %v", part, whole, !want)
		}
	}
	for part := range uint64(128) {
		for whole := range uint64(128) {
			tells(part, whole)
			tells(part<<57, whole<<57)
			tells(part|part<<50, whole|whole<<50)
		}
	}
	l := some()
	for i, part := range l {
		for j := range 20 {
			tells(part, l[(7*i+997*j)%len(l)])
		}
	}
}

// P12.2: the half is not more than the half, and one more is.
func TestJustTheHalf(t *testing.T) {
	for size := range 65 {
		var whole []int
		for i := range size {
			whole = append(whole, 63-i)
		}
		for n := range size + 1 {
			want := 2*n > size
			if bits.Majority(set(whole[:n]...), set(whole...)) != want {
				t.Errorf("%d of %d: %v", n, size, !want)
			}
		}
	}
}

// P12.2: what of the part is not in the whole does not count; of nothing
// nobody is the greater part.
func TestMajorityCountsTheWholeAlone(t *testing.T) {
	for _, s := range some() {
		if bits.Majority(s, 0) {
			t.Errorf("%b of nothing", s)
		}
		if bits.Majority(^s, s) || bits.Majority(0, s) {
			t.Errorf("none of %b", s)
		}
		if s != 0 && (!bits.Majority(s, s) || !bits.Majority(1<<64-1, s)) {
			t.Errorf("all of %b", s)
		}
	}
}

// P12.2: the chapter's example.
func TestRunsOfTheChapter(t *testing.T) {
	if l := bits.Runs(0b110111); !slices.Equal(l, []api.Span{{From: 0, To: 3}, {From: 4, To: 6}}) {
		t.Error(l)
	}
}

// runs goes through all numbers, and the one behind the last.
func runs(s uint64) []api.Span {
	var l []api.Span
	from := -1
	members := has(s)
	for i, is := range append(members[:], false) {
		switch {
		case is && from < 0:
			from = i
		case !is && from >= 0:
			l = append(l, api.Span{From: from, To: i})
			from = -1
		}
	}
	return l
}

// P12.2: runs of all kinds of sets.
func TestRuns(t *testing.T) {
	for _, s := range append(small(), some()...) {
		if l, want := bits.Runs(s), runs(s); !slices.Equal(l, want) {
			t.Errorf("%b: %v, not %v", s, l, want)
		}
	}
}

// P12.2: one run of each kind, those that come to an end with 63 too; of
// nothing none; and as many as there can be.
func TestRunsAtTheEnds(t *testing.T) {
	if l := bits.Runs(0); len(l) != 0 {
		t.Error(l)
	}
	for from := range 64 {
		var run []int
		for to := from + 1; to <= 64; to++ {
			run = append(run, to-1)
			if l := bits.Runs(set(run...)); !slices.Equal(l, []api.Span{{From: from, To: to}}) {
				t.Errorf("%d to %d: %v", from, to, l)
			}
		}
	}
	if l := bits.Runs(1<<63 | 1); !slices.Equal(l, []api.Span{{From: 0, To: 1}, {From: 63, To: 64}}) {
		t.Error(l)
	}
	for _, first := range []int{0, 1} {
		var want []api.Span
		var l []int
		for i := first; i < 64; i += 2 {
			want = append(want, api.Span{From: i, To: i + 1})
			l = append(l, i)
		}
		if x := bits.Runs(set(l...)); !slices.Equal(x, want) {
			t.Errorf("from %d: %v", first, x)
		}
	}
}
