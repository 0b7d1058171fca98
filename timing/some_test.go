package timing_test

import (
	"fmt"
	"math/rand"
	"slices"
	"testing"

	"rota/api"
	"rota/config"
	"rota/timing"
)

// The ends of all ints, and the last slot that may be asked of.
const (
	most  = 1<<63 - 1
	least = -1 << 63
	high  = 1 << 30
)

// bare is of a node for each owner, without partitions.
func bare(owners ...int) api.Config {
	c := api.Config{Nodes: len(owners), Owners: owners, Margin: 60, Bound: 60, Rejoin: 1, Quota: 16}
	for range owners {
		c.Windows = append(c.Windows, slices.Repeat([]int{-1}, len(owners)))
	}
	return c
}

func source(part, size int) api.Port {
	return api.Port{Part: part, Kind: api.Sampling, Dir: api.Source, Size: size}
}

func dest(part, size int) api.Port {
	return api.Port{Part: part, Kind: api.Sampling, Dir: api.Dest, Size: size, Fresh: 99}
}

// ofTheChapter is the configuration of the chapter's examples. Partition 2 has no window.
func ofTheChapter() api.Config {
	c := bare(2, 0, 1, 3)
	c.Parts = []api.Part{{Node: 0}, {Node: 3}, {Node: 0}}
	c.Windows[0][0], c.Windows[3][1] = 0, 1
	c.Ports = []api.Port{source(0, 3), dest(1, 3)}
	c.Links = []api.Link{{Source: 0, Dests: []int{1}}}
	return c
}

// full is of six nodes. Partitions 0 and 2 are node 4's, 1 and 3 node 0's, 4 is node 5's,
// 5 node 1's; 3 and 5 never run.
func full() api.Config {
	c := bare(4, 1, 5, 0, 3, 2)
	c.Parts = []api.Part{{Node: 4}, {Node: 0}, {Node: 4}, {Node: 0}, {Node: 5}, {Node: 1}}
	c.Windows[4] = []int{0, -1, 2, 0, 0, -1}
	c.Windows[0] = []int{1, 1, 1, 1, 1, 1}
	c.Windows[5] = []int{-1, -1, -1, -1, -1, 4}
	c.Ports = []api.Port{
		source(0, 5), dest(4, 5), dest(1, 5), dest(2, 5), dest(0, 5), dest(3, 5), // of link 0
		source(4, 32), dest(0, 32), // of link 2
		source(5, 1), dest(2, 1), // of link 1
		source(2, 7), dest(5, 7), dest(1, 7), // of link 3
		source(1, 9), dest(1, 1), // in no link
	}
	c.Links = []api.Link{
		{Source: 0, Dests: []int{1, 2, 3, 4, 5}, Offset: 9},
		{Source: 8, Dests: []int{9}},
		{Source: 6, Dests: []int{7}, Offset: 31},
		{Source: 10, Dests: []int{11, 12}},
	}
	return c
}

// chance is one that may be, with partitions of which some never run.
func chance(r *rand.Rand) api.Config {
	c := bare(r.Perm(api.MinNodes + r.Intn(api.MaxNodes-api.MinNodes+1))...)
	for range 1 + r.Intn(10) {
		c.Parts = append(c.Parts, api.Part{Node: r.Intn(c.Nodes)})
	}
	for node, row := range c.Windows {
		mine := []int{-1}
		for part, p := range c.Parts {
			if p.Node == node {
				mine = append(mine, part)
			}
		}
		for slot := range row {
			row[slot] = mine[r.Intn(len(mine))]
		}
	}
	end := make([]int, c.Nodes)
	for len(c.Ports) < 40 {
		from, size := r.Intn(len(c.Parts)), 1+r.Intn(12)
		l := api.Link{Source: len(c.Ports), Offset: end[c.Parts[from].Node] + r.Intn(3)}
		if l.Offset+1+size > api.Payload {
			break
		}
		end[c.Parts[from].Node] = l.Offset + 1 + size
		c.Ports = append(c.Ports, source(from, size))
		for range 1 + r.Intn(4) {
			l.Dests = append(l.Dests, len(c.Ports))
			c.Ports = append(c.Ports, dest(r.Intn(len(c.Parts)), size))
		}
		queue(r, c.Ports[l.Source:])
		c.Links = append(c.Links, l)
	}
	return c
}

// queue makes the ports of some links queuing ones.
func queue(r *rand.Rand, ports []api.Port) {
	if r.Intn(2) == 0 {
		return
	}
	for i := range ports {
		ports[i].Kind, ports[i].Fresh, ports[i].Depth = api.Queuing, 0, 1+r.Intn(api.MaxDepth)
	}
}

// some are those that are named above, and many by chance. All may be.
func some() []api.Config {
	l := []api.Config{ofTheChapter(), full(), bare(3, 2, 1, 0)}
	r := rand.New(rand.NewSource(18))
	for range 300 {
		l = append(l, chance(r))
	}
	return l
}

// copied shares nothing with c.
func copied(c api.Config) api.Config {
	c.Owners = slices.Clone(c.Owners)
	c.Parts = slices.Clone(c.Parts)
	c.Windows = slices.Clone(c.Windows)
	for i := range c.Windows {
		c.Windows[i] = slices.Clone(c.Windows[i])
	}
	c.Ports = slices.Clone(c.Ports)
	c.Links = slices.Clone(c.Links)
	for i := range c.Links {
		c.Links[i].Dests = slices.Clone(c.Links[i].Dests)
	}
	return c
}

// What follows says it as the chapter does, slot by slot.

func isRun(c api.Config, part, slot int) bool {
	return c.Windows[c.Parts[part].Node][slot%c.Nodes] == part
}

func isEver(c api.Config, part int) bool {
	return slices.Contains(slices.Concat(c.Windows...), part)
}

// way is from a link's source's partition to that of the Dest at a place.
func way(c api.Config, link, place int) (from, to int) {
	l := c.Links[link]
	return c.Ports[l.Source].Part, c.Ports[l.Dests[place]].Part
}

// getting is of what goes from one partition to another one, which runs.
func getting(c api.Config, from, to, slot int) int {
	for c.Owners[slot%c.Nodes] != c.Parts[from].Node {
		slot++
	}
	slot++
	for !isRun(c, to, slot) {
		slot++
	}
	return slot
}

// Each of these tells of any other answer than the one that is wanted; with an error
// that is 0.

// text is a call.
func text(name string, of ...int) string { return fmt.Sprint(name, of) }

func is(t *testing.T, what string, n int, err api.Errno, want int, wanted api.Errno) {
	t.Helper()
	if n != want || err != wanted {
		t.Errorf("%s: %d, %v; want %d, %v", what, n, err, want, wanted)
	}
}

func isRuns(t *testing.T, c api.Config, part, slot, want int, wanted api.Errno) {
	t.Helper()
	n, err := timing.Runs(c, part, slot)
	is(t, text("Runs", part, slot), n, err, want, wanted)
}

func isSends(t *testing.T, c api.Config, node, slot, want int, wanted api.Errno) {
	t.Helper()
	n, err := timing.Sends(c, node, slot)
	is(t, text("Sends", node, slot), n, err, want, wanted)
}

func isShare(t *testing.T, c api.Config, part, want int, wanted api.Errno) {
	t.Helper()
	n, err := timing.Share(c, part)
	is(t, text("Share", part), n, err, want, wanted)
}

func isPause(t *testing.T, c api.Config, part, want int, wanted api.Errno) {
	t.Helper()
	n, err := timing.Pause(c, part)
	is(t, text("Pause", part), n, err, want, wanted)
}

func isDelay(t *testing.T, c api.Config, link, place, slot, want int, wanted api.Errno) {
	t.Helper()
	n, err := timing.Delay(c, link, place, slot)
	is(t, text("Delay", link, place, slot), n, err, want, wanted)
}

func isWorst(t *testing.T, c api.Config, link, place, want int, wanted api.Errno) {
	t.Helper()
	n, err := timing.Worst(c, link, place)
	is(t, text("Worst", link, place), n, err, want, wanted)
}

func isLoad(t *testing.T, c api.Config, node, want int, wanted api.Errno) {
	t.Helper()
	n, err := timing.Load(c, node)
	is(t, text("Load", node), n, err, want, wanted)
}

func isChain(t *testing.T, c api.Config, links []int, slot, want int, wanted api.Errno) {
	t.Helper()
	n, err := timing.Chain(c, links, slot)
	is(t, text("Chain", append(slices.Clone(links), slot)...), n, err, want, wanted)
}

// mayBe ends the test, unless a configuration may be.
func mayBe(t *testing.T, c api.Config) {
	t.Helper()
	if err := config.Check(c); err != api.OK {
		t.Fatalf("%v of %+v", err, c)
	}
}
