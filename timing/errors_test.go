package timing_test

import (
	"testing"

	"rota/api"
)

// noSlots are none that may be asked of.
var noSlots = []int{-1, -4, least, least + 1, -high, high + 1, high + 4, 1 << 31, 1 << 32, 1<<32 + 1, most - 1, most}

// nowhere are numbers of nothing that full has.
var nowhere = []int{-1, -2, least, 6, 7, 15, 16, 31, 32, 64, 256, 1 << 32, 1<<32 + 1, -1 << 32, most}

// isRefused wants one error of all calls, of full's partition, link, place and node.
func isRefused(t *testing.T, c api.Config, part, link, place, node, slot int, want api.Errno) {
	t.Helper()
	isRuns(t, c, part, slot, 0, want)
	isSends(t, c, node, slot, 0, want)
	isShare(t, c, part, 0, want)
	isPause(t, c, part, 0, want)
	isDelay(t, c, link, place, slot, 0, want)
	isWorst(t, c, link, place, 0, want)
	isLoad(t, c, node, 0, want)
	isChain(t, c, []int{link}, slot, 0, want)
}

// turned are configurations that may not be, by their errors.
func turned() map[api.Errno]api.Config {
	l := map[api.Errno]api.Config{}
	turn := func(err api.Errno, how func(c *api.Config)) {
		c := full()
		how(&c)
		l[err] = c
	}
	turn(api.ErrNodes, func(c *api.Config) { c.Owners[0] = 3 })
	turn(api.ErrClock, func(c *api.Config) { c.Rejoin = 0 })
	turn(api.ErrParts, func(c *api.Config) { c.Parts[4].Node = 6 })
	turn(api.ErrWindows, func(c *api.Config) { c.Windows[0][5] = 0 })
	turn(api.ErrPorts, func(c *api.Config) { c.Ports[3].Part = 6 })
	turn(api.ErrLinks, func(c *api.Config) { c.Links[0].Dests[2] = 15 })
	return l
}

// P18.1, P18.2, P18.3: Check's error of the configuration is first, whatever else is wrong.
func TestConfigurationsThatMayNotBe(t *testing.T) {
	for err, c := range turned() {
		isRefused(t, c, 0, 0, 0, 0, 0, err)
		isRefused(t, c, -1, -1, -1, -1, -1, err)
		isRefused(t, c, most, most, most, most, most, err)
		isRefused(t, c, 3, 3, 0, 1, 2, err)
		isChain(t, c, nil, 0, 0, err)
		isChain(t, c, make([]int, 65), 0, 0, err)
	}
	isRefused(t, api.Config{}, 0, 0, 0, 0, 0, api.ErrNodes)
	isRefused(t, api.Config{Nodes: 4, Parts: make([]api.Part, 1), Ports: make([]api.Port, 2), Links: []api.Link{{Source: 0, Dests: []int{1}}}}, 0, 0, 0, 0, 0, api.ErrNodes)
	isRefused(t, api.Config{Nodes: most, Windows: [][]int{{0}}}, 0, 0, 0, 0, high, api.ErrNodes)
}

// P18.1, P18.2, P18.3: what is named must be there.
func TestNothingIsThere(t *testing.T) {
	c := full()
	for _, n := range nowhere {
		isRuns(t, c, n, 0, 0, api.ErrArg)
		isSends(t, c, n, 0, 0, api.ErrArg)
		isShare(t, c, n, 0, api.ErrArg)
		isPause(t, c, n, 0, api.ErrArg)
		isDelay(t, c, n, 0, 0, 0, api.ErrArg)
		isDelay(t, c, 0, n, 0, 0, api.ErrArg)
		isWorst(t, c, n, 0, 0, api.ErrArg)
		isWorst(t, c, 0, n, 0, api.ErrArg)
		isLoad(t, c, n, 0, api.ErrArg)
		isChain(t, c, []int{n}, 0, 0, api.ErrArg)
		isChain(t, c, []int{0, 2, n}, 0, 0, api.ErrArg)
	}
	// One behind the last link, and behind the last of a link's own Dests.
	isDelay(t, c, 4, 0, 0, 0, api.ErrArg)
	isWorst(t, c, 4, 0, 0, api.ErrArg)
	isChain(t, c, []int{4}, 0, 0, api.ErrArg)
	for link, l := range c.Links {
		isDelay(t, c, link, len(l.Dests), 0, 0, api.ErrArg)
		isWorst(t, c, link, len(l.Dests), 0, api.ErrArg)
	}
	isRefused(t, bare(0, 1, 2, 3), 0, 0, 0, 4, 0, api.ErrArg)
}

// P18.1, P18.2, P18.3: a slot is from 0 to 2^30.
func TestNoSlots(t *testing.T) {
	c := full()
	for _, slot := range noSlots {
		isRuns(t, c, 0, slot, 0, api.ErrArg)
		isSends(t, c, 0, slot, 0, api.ErrArg)
		isDelay(t, c, 0, 0, slot, 0, api.ErrArg)
		isChain(t, c, []int{0}, slot, 0, api.ErrArg)
		isChain(t, c, nil, slot, 0, api.ErrArg)
	}
	for _, slot := range []int{0, high} {
		isRuns(t, c, 1, slot, slot, api.OK)
		isChain(t, c, nil, slot, slot, api.OK)
	}
}

// P18.1, P18.2, P18.3: that something is not there is told ahead of that a partition
// never runs.
func TestNotThereIsFirst(t *testing.T) {
	c := full()
	for _, slot := range noSlots {
		isRuns(t, c, 3, slot, 0, api.ErrArg)
		isDelay(t, c, 3, 0, slot, 0, api.ErrArg)
		isChain(t, c, []int{1, 3}, slot, 0, api.ErrArg)
	}
	isChain(t, c, []int{1, 3, 4}, 0, 0, api.ErrArg)
	isChain(t, c, []int{1, 3, -1}, 0, 0, api.ErrArg)
	isWorst(t, c, 1, 1, 0, api.ErrArg)
	isDelay(t, c, 3, 2, 0, 0, api.ErrArg)
}
