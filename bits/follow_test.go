package bits_test

import (
	"testing"

	"rota/api"
	"rota/bits"
)

// P12.5: Of of Members is the set.
func TestOfMembers(t *testing.T) {
	for _, s := range append(small(), some()...) {
		if x := mustOf(t, bits.Members(s)...); x != s {
			t.Errorf("%b: %b", s, x)
		}
	}
}

// P12.5: two majorities of one set have one of it in common.
func TestMajoritiesMeet(t *testing.T) {
	for whole := range uint64(64) {
		var l []uint64
		for part := range uint64(256) {
			if bits.Majority(part, whole) {
				l = append(l, part)
			}
		}
		for _, a := range l {
			for _, b := range l {
				if a&b&whole == 0 {
					t.Fatalf("%b and %b of %b", a, b, whole)
				}
			}
		}
	}
	met := 0
	l := some()
	for i, whole := range l {
		a, b := l[(31*i+5)%len(l)], l[(97*i+11)%len(l)]
		if !bits.Majority(a, whole) || !bits.Majority(b, whole) {
			continue
		}
		met++
		if a&b&whole == 0 {
			t.Errorf("%b and %b of %b", a, b, whole)
		}
	}
	if met < 100 {
		t.Errorf("only %d met", met)
	}
}

// P12.5: Rank and Unrank undo one another.
func TestRankAndUnrank(t *testing.T) {
	for _, s := range below(60) {
		isUnrank(t, bits.Size(s), mustRank(t, s), s, api.OK)
	}
	for k := range 61 {
		all := binomial(60, k)
		step := all/50 + 1
		for n := uint64(0); n < all; n += step {
			s, err := bits.Unrank(k, n)
			if err != api.OK || bits.Size(s) != k || s>>60 != 0 {
				t.Fatalf("of size %d, rank %d: %b, %v", k, n, s, err)
			}
			isRank(t, s, n, api.OK)
		}
	}
}

// P12.5: the rank of Next is one more.
func TestRankOfNext(t *testing.T) {
	behind := 0
	for _, s := range below(60) {
		x, ok := bits.Next(s, 60)
		if !ok {
			continue
		}
		behind++
		if n, m := mustRank(t, s), mustRank(t, x); m != n+1 {
			t.Errorf("%b: %d, and %b behind it: %d", s, n, x, m)
		}
	}
	if behind < 9000 {
		t.Errorf("only %d had one behind them", behind)
	}
}

// P12.5: the sets of a size below n have just the ranks below their number:
// Next goes through all of them, from the least one on.
func TestRanksBelowN(t *testing.T) {
	for n := range 14 {
		for k := range n + 1 {
			all, err := bits.Subsets(n, k)
			if err != api.OK {
				t.Fatal(err)
			}
			s, want, ok := uint64(1)<<k-1, uint64(0), true
			for ; ok && want <= all; s, ok = bits.Next(s, n) {
				isRank(t, s, want, api.OK)
				want++
			}
			if want != all {
				t.Errorf("%d of size %d below %d, not %d", want, k, n, all)
			}
			if x, err := bits.Unrank(k, all); err == api.OK && x>>n == 0 {
				t.Errorf("of size %d, rank %d: %b", k, all, x)
			}
		}
	}
}
