package config_test

import (
	"fmt"
	"math"
	"math/rand"
	"testing"

	"rota/api"
	"rota/config"
)

// sized has so many nodes and nothing else.
func sized(nodes int) api.Config {
	c := plain()
	c.Nodes, c.Owners, c.Windows = nodes, nil, nil
	for n := range nodes {
		c.Owners = append(c.Owners, nodes-1-n)
		c.Windows = append(c.Windows, nil)
		for range nodes {
			c.Windows[n] = append(c.Windows[n], -1)
		}
	}
	return c
}

// mustCheck tells of any other answer than the one that is wanted.
func mustCheck(t *testing.T, what string, c api.Config, want api.Errno) {
	t.Helper()
	if err := config.Check(c); err != want {
		t.Errorf("%s: %v, not %v", what, err, want)
	}
}

// change is something done to a configuration that may be, and what Check then
// answers.
type change struct {
	name string
	do   func(c *api.Config)
	want api.Errno
}

func mustCheckAll(t *testing.T, base func() api.Config, changes []change) {
	t.Helper()
	mustCheck(t, "as it is", base(), api.OK)
	for _, x := range changes {
		c := base()
		x.do(&c)
		mustCheck(t, x.name, c, x.want)
	}
}

// atEnds makes changes of a number: least and most may be, one beyond each and
// the ends of int may not.
func atEnds(name string, least, most int, err api.Errno, field func(c *api.Config) *int) []change {
	var l []change
	for _, x := range []struct {
		n    int
		want api.Errno
	}{
		{least, api.OK}, {most, api.OK}, {least - 1, err}, {most + 1, err},
		{math.MinInt, err}, {math.MaxInt, err}, {math.MinInt32, err}, {math.MaxInt32, err}, {1 << 32, err},
	} {
		l = append(l, change{fmt.Sprint(name, " ", x.n), func(c *api.Config) { *field(c) = x.n }, x.want})
	}
	return l
}

// P2.2: the chapter's examples.
func TestCheckExamples(t *testing.T) {
	mustCheckAll(t, plain, []change{
		{"Owners 2 0 1 1", func(c *api.Config) { c.Owners[3] = 1 }, api.ErrNodes},
		{"Margin 51", func(c *api.Config) { c.Margin = 51 }, api.ErrClock},
		{"one partition 0 8 4", func(c *api.Config) { c.Parts = []api.Part{{Node: 0, From: 8, To: 4}} }, api.ErrParts},
		{"a window of 0", func(c *api.Config) { c.Windows[0][0] = 0 }, api.ErrWindows},
		{"a link", func(c *api.Config) { c.Links = []api.Link{{Source: 0, Dests: []int{0}}} }, api.ErrLinks},
		{"an empty link", func(c *api.Config) { c.Links = []api.Link{{}} }, api.ErrLinks},
	})
	mustCheck(t, "full", full(), api.OK)
	mustCheck(t, "nothing", api.Config{}, api.ErrNodes)
}

// P2.2, ErrNodes: how many nodes there may be, and as many owners.
func TestCheckNodes(t *testing.T) {
	for nodes := range 40 {
		want := api.OK
		if nodes < 4 || nodes > 16 {
			want = api.ErrNodes
		}
		mustCheck(t, fmt.Sprint(nodes), sized(nodes), want)
	}
	for _, nodes := range []int{-1, -4, 3, 5, 0, math.MinInt, math.MaxInt, 1<<32 + 4} {
		c := plain()
		c.Nodes = nodes
		mustCheck(t, fmt.Sprint(nodes), c, api.ErrNodes)
	}
}

// P2.2, ErrNodes: each node is an owner, and nobody else is.
func TestCheckOwners(t *testing.T) {
	mustCheckAll(t, plain, []change{
		{"turned", func(c *api.Config) { c.Owners = []int{3, 2, 1, 0} }, api.OK},
		{"none", func(c *api.Config) { c.Owners = nil }, api.ErrNodes},
		{"empty", func(c *api.Config) { c.Owners = []int{} }, api.ErrNodes},
		{"three", func(c *api.Config) { c.Owners = c.Owners[:3] }, api.ErrNodes},
		{"five", func(c *api.Config) { c.Owners = append(c.Owners, 0) }, api.ErrNodes},
		{"1 to 4", func(c *api.Config) { c.Owners = []int{1, 2, 3, 4} }, api.ErrNodes},
		{"-1", func(c *api.Config) { c.Owners = []int{-1, 0, 1, 2} }, api.ErrNodes},
		{"no 0", func(c *api.Config) { c.Owners[1] = 3 }, api.ErrNodes},
		{"no 2", func(c *api.Config) { c.Owners[0] = 0 }, api.ErrNodes},
		{"far off", func(c *api.Config) { c.Owners[2] = math.MinInt }, api.ErrNodes},
	})
	c := sized(16)
	c.Owners[0] = 0
	mustCheck(t, "no 15", c, api.ErrNodes)
}

// P2.2, ErrClock: Drift and Reading, where Margin and Bound are great enough.
func TestCheckDriftAndReading(t *testing.T) {
	base := func() api.Config {
		c := plain()
		c.Margin, c.Bound = 1<<24, 1<<24
		return c
	}
	mustCheckAll(t, base, atEnds("Drift", 0, 1<<20, api.ErrClock, func(c *api.Config) *int { return &c.Drift }))
	mustCheckAll(t, base, atEnds("Reading", 0, 1<<20, api.ErrClock, func(c *api.Config) *int { return &c.Reading }))
	c := base()
	c.Drift, c.Reading = 1<<20, 1<<20
	mustCheck(t, "both", c, api.OK)
	// Their sum goes round to 0 and the precision with it.
	for _, drift := range []int{math.MinInt, math.MaxInt, -5} {
		c := plain()
		c.Drift, c.Reading = drift, -drift
		mustCheck(t, "go round", c, api.ErrClock)
	}
}

// P2.2, ErrClock: Margin and Bound, for small and for great clocks.
func TestCheckMarginAndBound(t *testing.T) {
	for _, x := range []struct{ drift, reading, least int }{
		{10, 2, 52}, {0, 0, 2}, {1, 0, 6}, {0, 1, 7}, {1 << 20, 0, 1<<22 + 2}, {0, 1 << 20, 5<<20 + 2}, {1 << 20, 1 << 20, 9<<20 + 2},
	} {
		base := func() api.Config {
			c := plain()
			c.Drift, c.Reading, c.Margin, c.Bound = x.drift, x.reading, x.least, x.least
			return c
		}
		mustCheckAll(t, base, atEnds("Margin", x.least, 1<<24, api.ErrClock, func(c *api.Config) *int { return &c.Margin }))
		mustCheckAll(t, base, atEnds("Bound", x.least, 1<<24, api.ErrClock, func(c *api.Config) *int { return &c.Bound }))
	}
}

// P2.2, ErrClock: Rejoin and Quota.
func TestCheckRejoinAndQuota(t *testing.T) {
	mustCheckAll(t, full, atEnds("Rejoin", 1, 8, api.ErrClock, func(c *api.Config) *int { return &c.Rejoin }))
	mustCheckAll(t, full, atEnds("Quota", 1, 16, api.ErrClock, func(c *api.Config) *int { return &c.Quota }))
}

// P2.2, ErrParts: how many there may be, of which node, and which regions.
func TestCheckParts(t *testing.T) {
	base := func() api.Config {
		c := plain()
		c.Parts = []api.Part{{Node: 1, From: 0, To: 256}, {Node: 2, From: 10, To: 20}}
		return c
	}
	first := func(field func(p *api.Part) *int) func(c *api.Config) *int {
		return func(c *api.Config) *int { return field(&c.Parts[0]) }
	}
	second := func(field func(p *api.Part) *int) func(c *api.Config) *int {
		return func(c *api.Config) *int { return field(&c.Parts[1]) }
	}
	from := func(p *api.Part) *int { return &p.From }
	to := func(p *api.Part) *int { return &p.To }
	mustCheckAll(t, base, []change{
		{"node 0", func(c *api.Config) { c.Parts[1].Node = 0 }, api.OK},
		{"node 3", func(c *api.Config) { c.Parts[1].Node = 3 }, api.OK},
		{"node 4", func(c *api.Config) { c.Parts[1].Node = 4 }, api.ErrParts},
		{"node -1", func(c *api.Config) { c.Parts[1].Node = -1 }, api.ErrParts},
		{"node far off", func(c *api.Config) { c.Parts[0].Node = math.MaxInt }, api.ErrParts},
		{"node far below", func(c *api.Config) { c.Parts[0].Node = math.MinInt }, api.ErrParts},
		{"node 16", func(c *api.Config) { c.Parts[0].Node = 16 }, api.ErrParts},
	})
	mustCheckAll(t, base, atEnds("From", 0, 256, api.ErrParts, first(from)))
	mustCheckAll(t, base, atEnds("To", 0, 256, api.ErrParts, first(to)))
	mustCheckAll(t, base, atEnds("From, of another", 0, 20, api.ErrParts, second(from)))
	mustCheckAll(t, base, atEnds("To, of another", 10, 256, api.ErrParts, second(to)))
	c := sized(16)
	c.Parts = []api.Part{{Node: 15}}
	mustCheck(t, "node 15 of 16", c, api.OK)
	mustCheckAll(t, base, atEnds("Node", 0, 3, api.ErrParts, func(c *api.Config) *int {
		c.Parts = c.Parts[:1]
		return &c.Parts[0].Node
	}))
}

// P2.2, ErrParts: 32 partitions may be, 33 may not.
func TestCheckManyParts(t *testing.T) {
	for _, n := range []int{31, 32, 33, 34, 100, 70000} {
		c := plain()
		for p := range n {
			c.Parts = append(c.Parts, api.Part{Node: p % 4})
		}
		want := api.OK
		if n > 32 {
			want = api.ErrParts
		}
		mustCheck(t, fmt.Sprint(n), c, want)
	}
}

// inBoth says place by place whether something stands in both.
func inBoth(from, to, from2, to2 int) bool {
	for at := from; at < to; at++ {
		if from2 <= at && at < to2 {
			return true
		}
	}
	return false
}

// P2.2, ErrParts: all regions that are short, held against each other: those
// of one node must not meet, those of two may.
func TestCheckRegionsMeet(t *testing.T) {
	const most = 6
	for from := range most {
		for to := from; to < most; to++ {
			for from2 := range most {
				for to2 := from2; to2 < most; to2++ {
					for node := range 2 {
						c := plain()
						c.Parts = []api.Part{{Node: 1, From: from, To: to}, {Node: 0, From: 0, To: 99}, {Node: node, From: 250 + from2, To: 250 + to2}}
						c.Parts[0].From += 250
						c.Parts[0].To += 250
						want := api.OK
						if node == 1 && inBoth(from, to, from2, to2) {
							want = api.ErrParts
						}
						mustCheck(t, fmt.Sprint(c.Parts), c, want)
					}
				}
			}
		}
	}
}

// P2.2, ErrParts: of all partitions each two are held against each other.
func TestCheckEachTwoRegions(t *testing.T) {
	base := func() api.Config {
		c := plain()
		for p := range 32 {
			c.Parts = append(c.Parts, api.Part{Node: p % 2, From: 8 * p, To: 8*p + 8})
		}
		return c
	}
	mustCheck(t, "as it is", base(), api.OK)
	for p := range 32 {
		for q := range 32 {
			if p == q {
				continue
			}
			c := base()
			c.Parts[p] = api.Part{Node: c.Parts[q].Node, From: 8*q + 7, To: 8*q + 8}
			mustCheck(t, fmt.Sprint(p, " in ", q), c, api.ErrParts)
			c.Parts[p].From = 8*q + 8
			mustCheck(t, fmt.Sprint(p, " behind ", q), c, api.OK)
		}
	}
}

// P2.2, ErrWindows: as many rows and columns as nodes; whose partitions.
func TestCheckWindows(t *testing.T) {
	mustCheckAll(t, full, []change{
		{"none", func(c *api.Config) { c.Windows = nil }, api.ErrWindows},
		{"three rows", func(c *api.Config) { c.Windows = c.Windows[:3] }, api.ErrWindows},
		{"five rows", func(c *api.Config) { c.Windows = append(c.Windows, []int{-1, -1, -1, -1}) }, api.ErrWindows},
		{"an empty row", func(c *api.Config) { c.Windows[3] = nil }, api.ErrWindows},
		{"a short row", func(c *api.Config) { c.Windows[3] = c.Windows[3][:3] }, api.ErrWindows},
		{"a long row", func(c *api.Config) { c.Windows[0] = append(c.Windows[0], -1) }, api.ErrWindows},
		{"-2", func(c *api.Config) { c.Windows[3][3] = -2 }, api.ErrWindows},
		{"5", func(c *api.Config) { c.Windows[3][3] = 5 }, api.ErrWindows},
		{"4 of node 2", func(c *api.Config) { c.Windows[2][0] = 4 }, api.OK},
		{"4 of node 3", func(c *api.Config) { c.Windows[3][0] = 4 }, api.ErrWindows},
		{"0 of node 1", func(c *api.Config) { c.Windows[1][1] = 0 }, api.ErrWindows},
		{"2 of node 0", func(c *api.Config) { c.Windows[0][3] = 2 }, api.ErrWindows},
		{"far off", func(c *api.Config) { c.Windows[0][3] = math.MaxInt }, api.ErrWindows},
		{"far below", func(c *api.Config) { c.Windows[0][3] = math.MinInt }, api.ErrWindows},
	})
}

// P2.2, ErrWindows: of each window, each number.
func TestCheckEachWindow(t *testing.T) {
	nodes := []int{0, 0, 1, 2, 2}
	for node := range 4 {
		for slot := range 4 {
			for p := -3; p < 8; p++ {
				c := full()
				c.Windows[node][slot] = p
				want := api.ErrWindows
				if p == -1 || p >= 0 && p < 5 && nodes[p] == node {
					want = api.OK
				}
				mustCheck(t, fmt.Sprint(node, slot, p), c, want)
			}
		}
	}
}

// P2.2, ErrPorts: of each of a port's numbers the ends. No link holds the port.
func TestCheckPorts(t *testing.T) {
	with := func(p api.Port) func() api.Config {
		return func() api.Config {
			c := bare()
			c.Ports = []api.Port{{Part: 1, Kind: api.Sampling, Dir: api.Source, Size: 1}, p}
			return c
		}
	}
	part := func(c *api.Config) *int { return &c.Ports[1].Part }
	size := func(c *api.Config) *int { return &c.Ports[1].Size }
	depth := func(c *api.Config) *int { return &c.Ports[1].Depth }
	fresh := func(c *api.Config) *int { return &c.Ports[1].Fresh }
	kind := func(c *api.Config) *int { return &c.Ports[1].Kind }
	dir := func(c *api.Config) *int { return &c.Ports[1].Dir }
	for _, x := range []struct {
		p                       api.Port
		deep, deepest           int
		fresh, freshest         int
		kind, lastKind, lastDir int
		dir                     int
	}{
		{api.Port{Part: 2, Kind: 1, Dir: 1, Size: 9}, 0, 0, 0, 0, 1, 1, 1, 1},
		{api.Port{Part: 2, Kind: 1, Dir: 2, Size: 9, Fresh: 3}, 0, 0, 1, 65535, 1, 1, 2, 2},
		{api.Port{Part: 2, Kind: 2, Dir: 1, Size: 9, Depth: 3}, 1, 8, 0, 0, 2, 2, 2, 1},
		{api.Port{Part: 2, Kind: 2, Dir: 2, Size: 9, Depth: 3}, 1, 8, 0, 0, 2, 2, 2, 1},
	} {
		mustCheckAll(t, with(x.p), atEnds("Part", 0, 7, api.ErrPorts, part))
		mustCheckAll(t, with(x.p), atEnds("Size", 1, 32, api.ErrPorts, size))
		mustCheckAll(t, with(x.p), atEnds("Depth", x.deep, x.deepest, api.ErrPorts, depth))
		mustCheckAll(t, with(x.p), atEnds("Fresh", x.fresh, x.freshest, api.ErrPorts, fresh))
		mustCheckAll(t, with(x.p), atEnds("Kind", x.kind, x.lastKind, api.ErrPorts, kind))
		mustCheckAll(t, with(x.p), atEnds("Dir", x.dir, x.lastDir, api.ErrPorts, dir))
	}
}

// P2.2, ErrPorts: 64 ports may be, 65 may not; without partitions none may be.
func TestCheckManyPorts(t *testing.T) {
	for _, n := range []int{63, 64, 65, 70000} {
		c := bare()
		for range n {
			c.Ports = append(c.Ports, api.Port{Kind: api.Sampling, Dir: api.Source, Size: 1})
		}
		want := api.OK
		if n > 64 {
			want = api.ErrPorts
		}
		mustCheck(t, fmt.Sprint(n), c, want)
	}
	c := plain()
	c.Ports = []api.Port{{Kind: api.Sampling, Dir: api.Source, Size: 1}}
	mustCheck(t, "of nobody", c, api.ErrPorts)
}

// joined has four links from sources of node 0 and of node 1 to dests of
// nodes 2 and 3; ports 0 to 3 are the sources, 4 to 11 the dests.
func joined() api.Config {
	c := bare()
	for p := range 12 {
		kind, dir, depth, fresh := api.Sampling, api.Source, 0, 0
		if p >= 4 {
			dir = api.Dest
		}
		if p%2 == 1 {
			kind, depth = api.Queuing, 1
		} else if p >= 4 {
			fresh = 1
		}
		c.Ports = append(c.Ports, api.Port{Part: min(p, 7), Kind: kind, Dir: dir, Size: 31, Depth: depth, Fresh: fresh})
	}
	c.Links = []api.Link{
		{Source: 0, Dests: []int{4, 6}, Offset: 0},
		{Source: 1, Dests: []int{5, 7}, Offset: 32},
		{Source: 2, Dests: []int{8}, Offset: 16},
	}
	return c
}

// P2.2, ErrLinks: which ports a link may join.
func TestCheckLinks(t *testing.T) {
	mustCheckAll(t, joined, []change{
		{"one more", func(c *api.Config) {
			c.Links = append(c.Links, api.Link{Source: 3, Dests: []int{9, 11}, Offset: 48 - 1})
		}, api.ErrLinks},
		{"one more that may be", func(c *api.Config) {
			c.Links[2].Offset = 0
			c.Links = append(c.Links, api.Link{Source: 3, Dests: []int{9, 11}, Offset: 32})
		}, api.OK},
		{"no links", func(c *api.Config) { c.Links = nil }, api.OK},
		{"another Dest", func(c *api.Config) { c.Links[2].Dests = []int{10} }, api.OK},
		{"Dest of its own node", func(c *api.Config) { c.Ports[8].Part = 2 }, api.OK},
		{"Source -1", func(c *api.Config) { c.Links[2].Source = -1 }, api.ErrLinks},
		{"Source 12", func(c *api.Config) { c.Links[2].Source = 12 }, api.ErrLinks},
		{"Source far off", func(c *api.Config) { c.Links[2].Source = math.MaxInt }, api.ErrLinks},
		{"Source far below", func(c *api.Config) { c.Links[2].Source = math.MinInt }, api.ErrLinks},
		{"Source is Dest", func(c *api.Config) { c.Links[2].Source = 10 }, api.ErrLinks},
		{"Dest -1", func(c *api.Config) { c.Links[2].Dests[0] = -1 }, api.ErrLinks},
		{"Dest 12", func(c *api.Config) { c.Links[2].Dests[0] = 12 }, api.ErrLinks},
		{"second Dest 12", func(c *api.Config) { c.Links[2].Dests = []int{8, 12} }, api.ErrLinks},
		{"Dest far off", func(c *api.Config) { c.Links[2].Dests = []int{8, math.MaxInt} }, api.ErrLinks},
		{"Dest far below", func(c *api.Config) { c.Links[2].Dests = []int{math.MinInt} }, api.ErrLinks},
		{"Dest is Source", func(c *api.Config) { c.Ports[8] = c.Ports[0] }, api.ErrLinks},
		{"second Dest is Source", func(c *api.Config) { c.Ports[6] = c.Ports[2] }, api.ErrLinks},
		{"no Dests", func(c *api.Config) { c.Links[2].Dests = nil }, api.ErrLinks},
		{"empty Dests", func(c *api.Config) { c.Links[2].Dests = []int{} }, api.ErrLinks},
		{"another Kind", func(c *api.Config) { c.Links[2].Dests = []int{9} }, api.ErrLinks},
		{"another Kind, queuing", func(c *api.Config) { c.Links[1].Dests = []int{5, 8} }, api.ErrLinks},
		{"another Size", func(c *api.Config) { c.Ports[8].Size = 30 }, api.ErrLinks},
		{"a Size more", func(c *api.Config) { c.Ports[6].Size = 32 }, api.ErrLinks},
		{"Source twice", func(c *api.Config) { c.Links[2].Source = 0 }, api.ErrLinks},
		{"Source twice, at places of its own", func(c *api.Config) {
			c.Links = []api.Link{c.Links[0], {Source: 0, Dests: []int{8}, Offset: 32}}
		}, api.ErrLinks},
		{"another Source at these places", func(c *api.Config) {
			c.Ports[2].Part = 0
			c.Links = []api.Link{c.Links[0], {Source: 2, Dests: []int{8}, Offset: 32}}
		}, api.OK},
		{"Dest twice in one", func(c *api.Config) { c.Links[2].Dests = []int{8, 10, 8} }, api.ErrLinks},
		{"Dest twice in two", func(c *api.Config) { c.Links[2].Dests = []int{8, 4} }, api.ErrLinks},
		{"Dest twice, last first", func(c *api.Config) { c.Links[0].Dests = []int{8, 4} }, api.ErrLinks},
	})
}

// P2.2, ErrLinks: a link's place at its ends, of each size.
func TestCheckOffsets(t *testing.T) {
	for size := 1; size <= 32; size++ {
		base := func() api.Config {
			c := joined()
			c.Links = c.Links[2:]
			c.Ports[2].Size, c.Ports[8].Size = size, size
			return c
		}
		mustCheckAll(t, base, atEnds(fmt.Sprint("Offset, size ", size), 0, 63-size, api.ErrLinks, func(c *api.Config) *int { return &c.Links[0].Offset }))
	}
}

// P2.2, ErrLinks: the places of two links, held against each other: those of
// one node must not meet, those of two may, whose ports they ever are.
func TestCheckPlacesMeet(t *testing.T) {
	for _, sizes := range [][2]int{{1, 1}, {1, 3}, {3, 1}, {4, 5}, {31, 31}} {
		for _, node := range []int{0, 1} {
			for first := 0; first <= 63-sizes[0]; first += 1 + first%3 {
				for second := 0; second <= 63-sizes[1]; second++ {
					c := bare()
					c.Ports = []api.Port{
						{Part: 5, Kind: api.Queuing, Dir: api.Dest, Size: sizes[0], Depth: 1},
						{Part: 5, Kind: api.Queuing, Dir: api.Dest, Size: sizes[1], Depth: 1},
						{Part: 1, Kind: api.Queuing, Dir: api.Source, Size: sizes[0], Depth: 1},
						{Part: 2 * node, Kind: api.Queuing, Dir: api.Source, Size: sizes[1], Depth: 1},
					}
					c.Links = []api.Link{{Source: 2, Dests: []int{0}, Offset: first}, {Source: 3, Dests: []int{1}, Offset: second}}
					want := api.OK
					if node == 0 && inBoth(first, first+1+sizes[0], second, second+1+sizes[1]) {
						want = api.ErrLinks
					}
					mustCheck(t, fmt.Sprint(sizes, node, first, second), c, want)
				}
			}
		}
	}
}

// P2.2, ErrLinks: 65 links may not be. (More than 32 cannot be: each takes two
// ports of 64.)
func TestCheckManyLinks(t *testing.T) {
	base := func() api.Config {
		c := bare()
		for p := range 32 {
			c.Ports = append(c.Ports,
				api.Port{Part: p % 8, Kind: api.Sampling, Dir: api.Source, Size: 7},
				api.Port{Part: 7 - p%8, Kind: api.Sampling, Dir: api.Dest, Size: 7, Fresh: 1})
		}
		for p := range 32 {
			// Two partitions a node, four links each.
			c.Links = append(c.Links, api.Link{Source: 2 * p, Dests: []int{2*p + 1}, Offset: 8 * (p/8*2 + p%2)})
		}
		return c
	}
	mustCheck(t, "32", base(), api.OK)
	for _, n := range []int{33, 64, 65, 66, 70000} {
		c := base()
		for i := 32; i < n; i++ {
			c.Links = append(c.Links, c.Links[i%32])
		}
		mustCheck(t, fmt.Sprint(n), c, api.ErrLinks)
	}
}

// breaks makes each row of the errors' table tell, in the table's order.
func breaks() []change {
	return []change{
		{"nodes", func(c *api.Config) { c.Owners[1] = c.Owners[0] }, api.ErrNodes},
		{"clock", func(c *api.Config) { c.Quota = 0 }, api.ErrClock},
		{"parts", func(c *api.Config) { c.Parts[0].To = 257 }, api.ErrParts},
		{"windows", func(c *api.Config) { c.Windows[3][3] = -2 }, api.ErrWindows},
		{"ports", func(c *api.Config) { c.Ports[7].Size = 0 }, api.ErrPorts},
		{"links", func(c *api.Config) { c.Links[0].Offset = -1 }, api.ErrLinks},
	}
}

// P2.2: of several rows that tell an error the first one's is told.
func TestCheckFirstError(t *testing.T) {
	l := breaks()
	for set := range 1 << len(l) {
		c := full()
		want := api.OK
		for i := len(l) - 1; i >= 0; i-- {
			if set>>i&1 == 1 {
				l[i].do(&c)
				want = l[i].want
			}
		}
		mustCheck(t, fmt.Sprintf("%06b", set), c, want)
	}
}

// P2.2: what breaks one row in more than one way, or makes a later row look
// where there is nothing, tells the first row's error.
func TestCheckNothingBehind(t *testing.T) {
	mustCheckAll(t, full, []change{
		{"no nodes", func(c *api.Config) { c.Nodes = 0 }, api.ErrNodes},
		{"fewer nodes", func(c *api.Config) { c.Nodes, c.Owners = 3, []int{0, 1, 2} }, api.ErrNodes},
		{"many nodes", func(c *api.Config) { c.Nodes = math.MaxInt }, api.ErrNodes},
		{"more nodes", func(c *api.Config) { c.Nodes, c.Owners = 5, []int{0, 1, 2, 3, 4} }, api.ErrWindows},
		{"no parts", func(c *api.Config) { c.Parts = nil }, api.ErrWindows},
		{"no parts, no windows", func(c *api.Config) { c.Parts, c.Windows = nil, plain().Windows }, api.ErrPorts},
		{"no ports", func(c *api.Config) { c.Ports = nil }, api.ErrLinks},
		{"fewer ports", func(c *api.Config) { c.Ports = c.Ports[:5] }, api.ErrLinks},
		{"nothing but nodes", func(c *api.Config) { c.Parts, c.Windows, c.Ports, c.Links = nil, plain().Windows, nil, nil }, api.OK},
	})
}

// P2.2: nil lists and empty ones are the same.
func TestCheckNilAndEmpty(t *testing.T) {
	for _, c := range samples() {
		want := config.Check(c)
		for _, empty := range []bool{true, false} {
			mustCheck(t, fmt.Sprint(c), grown(c, empty), want)
		}
	}
	for _, empty := range []bool{true, false} {
		mustCheck(t, "plain", grown(plain(), empty), api.OK)
		mustCheck(t, "nothing", grown(api.Config{}, empty), api.ErrNodes)
	}
}

// P2.2, P2.6: what may be is so still when it has been bytes.
func TestCheckOfDecoded(t *testing.T) {
	r := rand.New(rand.NewSource(6))
	for range 2000 {
		c := full()
		n := 0
		eachNumber(&c, func(name string, p *int) {
			if n++; r.Intn(40) == 0 {
				*p = r.Intn(7) - 1
			}
		})
		d, err := config.Decode(mustEncode(t, c))
		if err != api.OK {
			t.Fatal(err)
		}
		mustCheck(t, "decoded", d, config.Check(c))
	}
}
