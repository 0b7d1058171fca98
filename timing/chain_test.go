package timing_test

import (
	"math/rand"
	"slices"
	"testing"

	"rota/api"
)

// P18.3: the chapter's examples.
func TestLoadAndChainOfTheChapter(t *testing.T) {
	c := ofTheChapter()
	isLoad(t, c, 0, 4, api.OK)
	isChain(t, c, []int{0}, 1, 9, api.OK)
}

// P18.3: a link's place is its node's, and not the nodes' of its Dests; whether its
// source ever runs or not, and wherever it begins.
func TestLoad(t *testing.T) {
	for node, want := range []int{0, 2, 0, 0, 6 + 8, 33} {
		isLoad(t, full(), node, want, api.OK)
	}
	for _, c := range some() {
		isLoadOfAll(t, c)
	}
	// A payload that is full, and as many links as there are ports for.
	c := bare(0, 1, 2, 3)
	c.Parts = []api.Part{{Node: 2}}
	for n := range 32 {
		c.Ports = append(c.Ports, source(0, 1), dest(0, 1))
		c.Links = append(c.Links, api.Link{Source: 2 * n, Dests: []int{2*n + 1}, Offset: 62 - 2*n})
	}
	mayBe(t, c)
	isLoad(t, c, 2, 64, api.OK)
	isLoad(t, c, 1, 0, api.OK)
}

// isLoadOfAll counts bytes one by one.
func isLoadOfAll(t *testing.T, c api.Config) {
	t.Helper()
	taken := make([][api.Payload]bool, c.Nodes)
	for _, l := range c.Links {
		p := c.Ports[l.Source]
		for at := range 1 + p.Size {
			taken[c.Parts[p.Part].Node][l.Offset+at] = true
		}
	}
	for node := range c.Nodes {
		n := 0
		for _, is := range taken[node] {
			if is {
				n++
			}
		}
		isLoad(t, c, node, n, api.OK)
	}
}

// P18.3: of no links it is the slot itself; else each link goes on where the one ahead
// of it was got, in that very slot, if its source runs there.
func TestChainOfFull(t *testing.T) {
	c := full()
	for _, slot := range []int{0, 1, 7, high} {
		isChain(t, c, nil, slot, slot, api.OK)
		isChain(t, c, []int{}, slot, slot, api.OK)
	}
	// Link 0: partition 0 runs in slots 0, 3, 4, is sent in 0, and got by 4 in slot 5.
	isChain(t, c, []int{0}, 0, 5, api.OK)
	isChain(t, c, []int{0}, 1, 11, api.OK)
	isChain(t, c, []int{0}, 5, 11, api.OK)
	// Link 2: partition 4 runs in slot 5, is sent in 2, and got by 0 in slot 3.
	isChain(t, c, []int{2}, 0, 9, api.OK)
	isChain(t, c, []int{2}, 5, 9, api.OK)
	isChain(t, c, []int{2}, 6, 15, api.OK)
	isChain(t, c, []int{0, 2}, 0, 9, api.OK)
	isChain(t, c, []int{0, 2, 0, 2}, 0, 21, api.OK)
	// Links need not join, and one may come again at once.
	isChain(t, c, []int{0, 0}, 0, 11, api.OK)
	isChain(t, c, []int{2, 2}, 0, 15, api.OK)
	isChain(t, c, []int{0}, high, high+7, api.OK)
}

// P18.3: a partition that never runs, at any place of a chain; of Dests the first one
// alone is to run.
func TestChainOfWhoNeverRuns(t *testing.T) {
	c := full()
	for _, link := range []int{1, 3} {
		isChain(t, c, []int{link}, 0, 0, api.ErrTiming)
		isChain(t, c, []int{link, 0}, 0, 0, api.ErrTiming)
		isChain(t, c, []int{0, 2, link}, 3, 0, api.ErrTiming)
		isChain(t, c, slices.Concat(slices.Repeat([]int{0}, 63), []int{link}), 3, 0, api.ErrTiming)
	}
	slices.Reverse(c.Links[3].Dests)
	isChain(t, c, []int{3}, 0, 7, api.OK)
	slices.Reverse(c.Links[0].Dests)
	isChain(t, c, []int{0}, 0, 0, api.ErrTiming)
}

// P18.3: as many links as a chain may have, and more.
func TestLongChains(t *testing.T) {
	c := ofTheChapter()
	for _, n := range []int{63, 64} {
		// The first one is got in slot 5; each further one runs in slot 8 and is got in 13,
		// which is eight later.
		isChain(t, c, make([]int, n), 0, 5+8*(n-1), api.OK)
		isChain(t, c, make([]int, n), high, high+5+8*(n-1), api.OK)
	}
	for _, n := range []int{65, 66, 128, 1 << 20} {
		isChain(t, c, make([]int, n), 0, 0, api.ErrArg)
	}
	never := slices.Repeat([]int{1}, 65)
	isChain(t, full(), never[:64], 0, 0, api.ErrTiming)
	isChain(t, full(), never, 0, 0, api.ErrArg)
}

// P18.3: of configurations of all kinds, slot by slot.
func TestChainOfAll(t *testing.T) {
	r := rand.New(rand.NewSource(3))
	how := map[api.Errno]int{}
	for _, c := range some() {
		for range 20 {
			var links []int
			for range r.Intn(5) {
				if len(c.Links) > 0 {
					links = append(links, r.Intn(len(c.Links)))
				}
			}
			slot := r.Intn(3 * c.Nodes)
			want, err := chain(c, links, slot)
			isChain(t, c, links, slot, want, err)
			how[err]++
		}
	}
	for _, err := range []api.Errno{api.OK, api.ErrTiming} {
		if how[err] < 400 {
			t.Errorf("only %d of error %v", how[err], err)
		}
	}
}

func chain(c api.Config, links []int, slot int) (int, api.Errno) {
	for _, link := range links {
		from, to := way(c, link, 0)
		if !isEver(c, from) || !isEver(c, to) {
			return 0, api.ErrTiming
		}
		for !isRun(c, from, slot) {
			slot++
		}
		slot = getting(c, from, to, slot)
	}
	return slot, api.OK
}
