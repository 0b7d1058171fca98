package clock_test

import (
	"math"
	"math/rand"
	"testing"

	"rota/api"
)

// model is a clock as the chapter words it.
type model struct {
	c        api.Config
	offset   int
	readings map[int]int
}

func cutTo(n, to int) int {
	if n > to {
		return to
	}
	if n < -to {
		return -to
	}
	return n
}

func (m *model) average(members uint16, own int) (int, bool) {
	var l []int
	for node := range m.c.Nodes {
		reading, ok := m.readings[node]
		if node == own {
			reading, ok = 0, true
		}
		if ok && members&(1<<node) != 0 {
			l = append(l, reading)
		}
	}
	if len(l) == 0 {
		return 0, false
	}
	if len(l) >= 3 {
		l = without(without(l, least), greatest)
	}
	// Whole numbers up to 2^42, and half of them, are exact as floats.
	return int(math.Floor(float64(least(l)+greatest(l)) / 2)), true
}

func least(l []int) int {
	n := l[0]
	for _, x := range l {
		n = min(n, x)
	}
	return n
}

func greatest(l []int) int {
	n := l[0]
	for _, x := range l {
		n = max(n, x)
	}
	return n
}

// without leaves out one that is found.
func without(l []int, find func([]int) int) []int {
	n := find(l)
	for i, x := range l {
		if x == n {
			return append(append([]int{}, l[:i]...), l[i+1:]...)
		}
	}
	return l
}

// anyNumber is one that is often near 0, or near such as limits hang on.
func anyNumber(r *rand.Rand) int {
	n := []int{0, 0, 0, 20, 70, 90, 1 << 20, 1 << 24, far, 2 * far, math.MaxInt - 10}[r.Intn(11)] + r.Intn(10) - r.Intn(10)
	if r.Intn(2) == 0 {
		return -n
	}
	return n
}

func anyNode(r *rand.Rand) int {
	if r.Intn(10) == 0 {
		return wild[r.Intn(len(wild))]
	}
	return r.Intn(17) - 1
}

func anyMembers(r *rand.Rand) uint16 {
	return []uint16{all, 0, uint16(r.Intn(1 << 16)), uint16(r.Intn(16))}[r.Intn(4)]
}

// P8.1 to P8.4: runs by chance answer what the chapter's words do.
func TestRuns(t *testing.T) {
	r := rand.New(rand.NewSource(8))
	for _, c := range []api.Config{chapters(), some(), widest(), exact()} {
		for range 200 {
			k, m := mustNew(t, c), &model{c: c, readings: map[int]int{}}
			for range 100 {
				step(t, r, k.Set, m)
				if n := anyNumber(r); r.Intn(3) == 0 {
					m.offset = cutTo(m.offset+cutTo(n, c.Drift), far)
					drifts(t, k, n, m.offset)
				}
				for range r.Intn(4) {
					node, n := anyNode(r), anyNumber(r)
					want := api.ErrArg
					if node >= 0 && node < c.Nodes && n >= -2*far && n <= 2*far {
						want, m.readings[node] = api.OK, n
					}
					if err := k.Hear(node, n); err != want {
						t.Errorf("hear %d, %d: %v, not %v", node, n, err, want)
					}
				}
				other, misread := anyNumber(r), anyNumber(r)
				reads(t, k, other, misread, cutTo(other, far)-m.offset+cutTo(misread, c.Reading))
				fits(t, k, other, cutTo(other, c.Margin) == other)
				members, own := anyMembers(r), anyNode(r)
				want, is := m.average(members, own)
				if n, ok := k.Average(members, own); n != want || ok != is {
					t.Errorf("average of %b, own %d: %d, %v, not %d, %v", members, own, n, ok, want, is)
				}
				if r.Intn(4) == 0 {
					m.offset = cutTo(m.offset+cutTo(want, c.Bound), far)
					m.readings = map[int]int{}
					rounds(t, k, members, own, cutTo(want, c.Bound))
				}
				stands(t, k, m.offset)
			}
		}
	}
}

// step sets both now and then.
func step(t *testing.T, r *rand.Rand, set func(int) api.Errno, m *model) {
	t.Helper()
	if r.Intn(5) != 0 {
		return
	}
	n, want := anyNumber(r), api.ErrArg
	if n >= -far && n <= far {
		want, m.offset = api.OK, n
	}
	if err := set(n); err != want {
		t.Errorf("set %d: %v, not %v", n, err, want)
	}
}
