package ring_test

import (
	"math/big"
	"math/rand"
	"testing"

	"rota/api"
	"rota/ring"
)

// P13.3 and P13.4: the chapter's examples.
func TestNumbersOfTheChapter(t *testing.T) {
	if g := ring.Gcd(12, -18); g != 6 {
		t.Error(g)
	}
	isLcm(t, 4, 6, 12, api.OK)
	isLcm(t, 0, 1, 0, api.ErrArg)
	isHyper(t, []int{2, 3, 4}, 12, api.OK)
	isFalls(t, 3, 1, 0, 8, 3, api.OK)
	isFalls(t, 3, -1, 5, 5, 0, api.OK)
}

// gcd is the greatest number that both are multiples of, by trying all.
func gcd(a, b int) int {
	a, b = max(a, -a), max(b, -b)
	for g := max(a, b); g > 0; g-- {
		if a%g == 0 && b%g == 0 {
			return g
		}
	}
	return 0
}

// P13.3: all pairs of small numbers, below 0 too.
func TestGcd(t *testing.T) {
	for a := -40; a <= 40; a++ {
		for b := -40; b <= 40; b++ {
			if g := ring.Gcd(a, b); g != gcd(a, b) {
				t.Errorf("%d and %d: %d, not %d", a, b, g, gcd(a, b))
			}
		}
	}
}

// P13.3: and the ends: beyond them it is 0.
func TestGcdAtTheEnds(t *testing.T) {
	for _, x := range [][3]int{
		{low, low, 1 << 31}, {low, 0, 1 << 31}, {0, low, 1 << 31}, {low, 6, 2}, {low, high, 1}, {high, high, high},
		{high, 0, high}, {-high, high, high}, {low, 1 << 30, 1 << 30}, {0, 0, 0}, {0, -7, 7}, {-7, 0, 7},
		{high + 1, 2, 0}, {2, high + 1, 0}, {low - 1, 3, 0}, {3, low - 1, 0}, {high + 1, high + 1, 0},
		{least, least, 0}, {most, most, 0}, {least, 0, 0}, {0, most, 0}, {1 << 32, 1 << 30, 0}, {0, 1 << 40, 0},
	} {
		if g := ring.Gcd(x[0], x[1]); g != x[2] {
			t.Errorf("%d and %d: %d, not %d", x[0], x[1], g, x[2])
		}
	}
}

// lcm is the least number above 0 that is a multiple of both, by numbers as great
// as need be; false, if there is none as small as is asked for.
func lcm(a, b int) (int, api.Errno) {
	if a < 1 || b < 1 || a > high || b > high {
		return 0, api.ErrArg
	}
	x, y := big.NewInt(int64(a)), big.NewInt(int64(b))
	g := new(big.Int).GCD(nil, nil, x, y)
	x.Div(x.Mul(x, y), g)
	if x.Cmp(big.NewInt(high)) > 0 {
		return 0, api.ErrArg
	}
	return int(x.Int64()), api.OK
}

// P13.3: all pairs of small numbers: none less than what is told is a multiple of
// both.
func TestLcm(t *testing.T) {
	for a := -3; a <= 40; a++ {
		for b := -3; b <= 40; b++ {
			want, err := 0, api.ErrArg
			if a > 0 && b > 0 {
				for want = 1; want%a != 0 || want%b != 0; {
					want++
				}
				err = api.OK
			}
			isLcm(t, a, b, want, err)
		}
	}
}

// P13.3: what is put together may be as great as 2^31 - 1, and no greater.
func TestLcmAtTheEnds(t *testing.T) {
	for _, x := range [][2]int{
		{high, high}, {high, 1}, {1, high}, {high, 2}, {2, high}, {46341, 46341}, {46341, 46340}, {46340, 46339}, {1 << 30, 1 << 29},
		{1 << 30, 3}, {3, 1 << 30}, {1 << 16, 1<<15 - 1}, {1 << 16, 1<<15 + 1}, {65537, 32767}, {65535, 32769}, {high - 1, 2}, {high - 1, high},
		{high + 1, 1}, {1, high + 1}, {high + 1, high + 1}, {low, 1}, {1, low}, {1 << 32, 1 << 32}, {most, most}, {least, least}, {most, 1}, {1, least}, {0, 0}, {-1, 1},
	} {
		want, err := lcm(x[0], x[1])
		isLcm(t, x[0], x[1], want, err)
	}
	isLcm(t, high, high, high, api.OK)
	isLcm(t, high, 1, high, api.OK)
	isLcm(t, 1<<30, 2, 1<<30, api.OK)
	isLcm(t, 1<<30, 3, 0, api.ErrArg)
	r := rand.New(rand.NewSource(133))
	for range 20000 {
		a, b := 1+r.Intn(high), 1+r.Intn(1<<(1+r.Intn(30)))
		common := 1 + r.Intn(1<<(1+r.Intn(20)))
		for _, x := range [][2]int{{a, b}, {b, a}, {a / common * common, common}, {b * common, common}, {common * 3, common * 5}} {
			want, err := lcm(x[0], x[1])
			isLcm(t, x[0], x[1], want, err)
		}
	}
}

// P13.3: 1 of none; of one it is itself, if it may be.
func TestHyperOfFew(t *testing.T) {
	isHyper(t, nil, 1, api.OK)
	isHyper(t, []int{}, 1, api.OK)
	for _, a := range []int{1, 2, 7, 1 << 30, high} {
		isHyper(t, []int{a}, a, api.OK)
		isHyper(t, []int{a, a, a}, a, api.OK)
		isHyper(t, []int{1, a, 1}, a, api.OK)
	}
}

// P13.3: of all of them together, in any order.
func TestHyper(t *testing.T) {
	r := rand.New(rand.NewSource(1333))
	for range 20000 {
		var l []int
		for range r.Intn(8) {
			l = append(l, 1+r.Intn(1<<(1+r.Intn(7))))
		}
		all := big.NewInt(1)
		for _, a := range l {
			x := big.NewInt(int64(a))
			g := new(big.Int).GCD(nil, nil, all, x)
			all.Mul(all, x.Div(x, g))
		}
		want, err := 0, api.ErrArg
		if all.Cmp(big.NewInt(high)) <= 0 {
			want, err = int(all.Int64()), api.OK
		}
		isHyper(t, l, want, err)
		r.Shuffle(len(l), func(i, j int) { l[i], l[j] = l[j], l[i] })
		isHyper(t, l, want, err)
	}
}

// P13.3: one that may not be is enough, wherever it stands; and all of them
// together may be too great though no two are.
func TestHyperThatMayNotBe(t *testing.T) {
	for _, a := range []int{0, -1, -2, high + 1, low, most, least, 1 << 32} {
		for _, l := range [][]int{{a}, {a, 2}, {2, a}, {2, a, 3}, {a, a}, {high, a}, {a, 0}, {1 << 30, 3, a}} {
			isHyper(t, l, 0, api.ErrArg)
		}
	}
	isHyper(t, []int{1 << 11, 3 * 3 * 3 * 3 * 3 * 3 * 3, 5 * 5 * 5 * 5}, 0, api.ErrArg)
	isHyper(t, []int{1 << 11, 3 * 3 * 3 * 3 * 3 * 3 * 3, 5 * 5 * 5}, 559872000, api.OK)
	isHyper(t, []int{1 << 30, 3, 1}, 0, api.ErrArg)
	isHyper(t, []int{1 << 30, 3, 1, 2}, 0, api.ErrArg)
}

// falls counts number by number.
func falls(period, offset, from, to int) int {
	count := 0
	for a := from; a < to; a++ {
		if placeOf(a-offset, period) == 0 {
			count++
		}
	}
	return count
}

// P13.4: all small stretches, also below 0, and such as have no number.
func TestFalls(t *testing.T) {
	for period := 1; period <= 6; period++ {
		for offset := -8; offset <= 8; offset++ {
			for from := -14; from <= 14; from++ {
				count := 0
				for to := from; to <= 14; to++ {
					isFalls(t, period, offset, from, to, count, api.OK)
					if placeOf(to-offset, period) == 0 {
						count++
					}
				}
				for to := -14; to < from; to++ {
					isFalls(t, period, offset, from, to, 0, api.OK)
				}
			}
		}
	}
}

// P13.4: by chance, with stretches at both ends of the numbers.
func TestFallsByChance(t *testing.T) {
	r := rand.New(rand.NewSource(134))
	number := func() int { return low + r.Intn(1<<32) }
	for range 20000 {
		period, offset := 1+r.Intn(1<<r.Intn(11)), number()
		from := []int{number(), low + r.Intn(9), high - r.Intn(99), -r.Intn(99)}[r.Intn(4)]
		to := min(from+r.Intn(200), high)
		isFalls(t, period, offset, from, to, falls(period, offset, from, to), api.OK)
		isFalls(t, period, offset, to, from, falls(period, offset, to, from), api.OK)
	}
}

// P13.4: the whole of the numbers, and the longest periods.
func TestFallsAtTheEnds(t *testing.T) {
	for _, x := range [][5]int{
		{1, 0, low, high, 1<<32 - 1}, {1, low, low, high, 1<<32 - 1}, {1, high, low, high, 1<<32 - 1},
		{2, 0, low, high, 1 << 31}, {2, 1, low, high, 1<<31 - 1}, {2, low, low, high, 1 << 31},
		{high, 0, low, high, 2}, {high, low, low, high, 3}, {high, high, low, high, 2}, {high, high - 1, low, high, 3},
		{high, -1, low, high, 3}, {high, 1, low, high, 2}, {high, high, high, high, 0}, {high, high, high - 1, high, 0},
		{high, low, low, low + 1, 1}, {high, high, low, low + 1, 0}, {high, high - 1, low, low + 1, 1}, {high, high, high, low, 0},
		{1, 0, high - 1, high, 1}, {1, 0, high, low, 0},
	} {
		isFalls(t, x[0], x[1], x[2], x[3], x[4], api.OK)
	}
}

// P13.4: numbers that are beyond, each alone.
func TestFallsThatMayNotBe(t *testing.T) {
	isFalls(t, 1, 0, 0, 1, 1, api.OK)
	for _, period := range []int{0, -1, -3, low, high + 1, 1 << 32, 1<<32 + 1, most, least} {
		isFalls(t, period, 0, 0, 1, 0, api.ErrArg)
		isFalls(t, period, 0, 1, 0, 0, api.ErrArg)
	}
	for _, beyond := range []int{low - 1, high + 1, -1 << 32, 1 << 32, most, least} {
		isFalls(t, 1, beyond, 0, 1, 0, api.ErrArg)
		isFalls(t, 1, 0, beyond, 1, 0, api.ErrArg)
		isFalls(t, 1, 0, 0, beyond, 0, api.ErrArg)
		isFalls(t, 3, beyond, beyond, beyond, 0, api.ErrArg)
	}
}
