package bits_test

import (
	"slices"
	"testing"

	"rota/api"
	"rota/bits"
)

// P12.1: the chapter's examples.
func TestSetOfTheChapter(t *testing.T) {
	if s := mustOf(t, 0, 3); s != 9 {
		t.Error(s)
	}
	if l := bits.Members(9); !slices.Equal(l, []int{0, 3}) {
		t.Error(l)
	}
	if n := bits.Size(9); n != 2 {
		t.Error(n)
	}
	isFrom(t, 9, 1, 3, true)
}

// P12.1: of each number its bit, and of all of them all bits.
func TestOfEachNumber(t *testing.T) {
	var all []int
	for i := range 64 {
		all = append(all, i)
		if s := mustOf(t, i); s != set(i) {
			t.Errorf("%d: %b", i, s)
		}
		for j := range 64 {
			if s := mustOf(t, i, j); s != set(i, j) {
				t.Errorf("%d, %d: %b", i, j, s)
			}
		}
		if s := mustOf(t, all...); s != set(all...) {
			t.Errorf("%v: %b", all, s)
		}
	}
	if s := mustOf(t, all...); s != 1<<64-1 {
		t.Errorf("all: %b", s)
	}
}

// P12.1: of nothing there is a set, with nothing in it.
func TestOfNothing(t *testing.T) {
	for _, l := range [][]int{nil, {}, []int{5, 64}[:0]} {
		if s, err := bits.Of(l); s != 0 || err != api.OK {
			t.Errorf("%b, %v", s, err)
		}
	}
}

// P12.1: it is all the same in which order numbers come, and how often.
func TestOfAnyOrder(t *testing.T) {
	for _, s := range some() {
		l := listed(s)
		slices.Reverse(l)
		if x := mustOf(t, l...); x != s {
			t.Errorf("%v: %b", l, x)
		}
		if x := mustOf(t, append(l, l...)...); x != s {
			t.Errorf("%v twice: %b", l, x)
		}
	}
	if s := mustOf(t, slices.Repeat([]int{5}, 1000)...); s != 32 {
		t.Errorf("%b", s)
	}
}

// P12.1: a number that no set has, wherever it stands: ErrBits, and no set.
func TestOfOthers(t *testing.T) {
	for _, i := range outside {
		for _, l := range [][]int{{i}, {i, 0}, {0, i}, {63, 5, i}, {i, 63, 5}, {5, i, 63}, {i, i}} {
			if s, err := bits.Of(l); s != 0 || err != api.ErrBits {
				t.Errorf("%v: %b, %v", l, s, err)
			}
		}
	}
	long := append(make([]int, 5000), 64)
	if s, err := bits.Of(long); s != 0 || err != api.ErrBits {
		t.Errorf("long: %b, %v", s, err)
	}
}

// P12.1: what a set has, rising, and how many these are.
func TestMembersAndSize(t *testing.T) {
	for _, s := range append(small(), some()...) {
		l := listed(s)
		if x := bits.Members(s); !slices.Equal(x, l) {
			t.Errorf("%b: %v, not %v", s, x, l)
		}
		if n := bits.Size(s); n != len(l) {
			t.Errorf("%b: %d, not %d", s, n, len(l))
		}
	}
}

// P12.1: the ends: nothing, and all.
func TestMembersAtTheEnds(t *testing.T) {
	if l := bits.Members(0); len(l) != 0 || bits.Size(0) != 0 {
		t.Error(l, bits.Size(0))
	}
	if l := bits.Members(1<<64 - 1); len(l) != 64 || l[0] != 0 || l[63] != 63 || bits.Size(1<<64-1) != 64 {
		t.Error(l, bits.Size(1<<64-1))
	}
	if l := bits.Members(1 << 63); !slices.Equal(l, []int{63}) || bits.Size(1<<63) != 1 {
		t.Error(l, bits.Size(1<<63))
	}
}

// P12.1: whether a set has a number; no set has others.
func TestHas(t *testing.T) {
	for _, s := range some() {
		for i, want := range has(s) {
			if bits.Has(s, i) != want {
				t.Errorf("%d of %b: %v", i, s, !want)
			}
		}
	}
	for _, i := range outside {
		for _, s := range []uint64{0, 1, 1 << 63, 1<<64 - 1} {
			if bits.Has(s, i) {
				t.Errorf("%d of %b: true", i, s)
			}
		}
	}
}

// P12.1: the least one that is not less, of each set and number.
func TestFrom(t *testing.T) {
	for _, s := range some() {
		l := has(s)
		want, ok := 0, false
		for i := 63; i >= 0; i-- {
			if l[i] {
				want, ok = i, true
			}
			isFrom(t, s, i, want, ok)
		}
		// Behind the loop it is the least one of all.
		for _, i := range []int{-1, -2, -64, -1 << 32, least, least + 1} {
			isFrom(t, s, i, want, ok)
		}
		for _, i := range []int{64, 65, 128, 1 << 32, most} {
			isFrom(t, s, i, 0, false)
		}
	}
}
