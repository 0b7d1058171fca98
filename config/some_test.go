package config_test

import (
	"math/rand"
	"slices"

	"rota/api"
)

func part(node, from, to int) api.Part {
	return api.Part{Node: node, From: from, To: to}
}

func port(part, kind, dir, size, depth, fresh int) api.Port {
	return api.Port{Part: part, Kind: kind, Dir: dir, Size: size, Depth: depth, Fresh: fresh}
}

func link(source, offset int, dests ...int) api.Link {
	return api.Link{Source: source, Dests: dests, Offset: offset}
}

// plain is the configuration of the chapter's examples.
func plain() api.Config {
	c := api.Config{Nodes: 4, Owners: []int{2, 0, 1, 3}, Drift: 10, Reading: 2, Margin: 60, Bound: 60, Rejoin: 1, Quota: 1}
	for range 4 {
		c.Windows = append(c.Windows, []int{-1, -1, -1, -1})
	}
	return c
}

// full may be, and has something of everything: partitions 0 and 1 of node 0,
// 2 of node 1, 3 and 4 of node 2, and none of node 3.
func full() api.Config {
	c := plain()
	c.Parts = []api.Part{part(0, 0, 8), part(0, 8, 20), part(1, 0, 256), part(2, 100, 100), part(2, 50, 150)}
	c.Windows = [][]int{{0, 1, 0, -1}, {2, -1, -1, 2}, {3, 4, 3, 4}, {-1, -1, -1, -1}}
	c.Ports = []api.Port{
		port(0, api.Sampling, api.Source, 4, 0, 0),
		port(2, api.Sampling, api.Dest, 4, 0, 10),
		port(3, api.Sampling, api.Dest, 4, 0, 65535),
		port(1, api.Queuing, api.Source, 32, 8, 0),
		port(4, api.Queuing, api.Dest, 32, 1, 0),
		port(2, api.Queuing, api.Source, 32, 2, 0),
		port(0, api.Queuing, api.Dest, 32, 2, 0),
		port(1, api.Sampling, api.Dest, 1, 0, 1), // in no link
	}
	c.Links = []api.Link{link(0, 0, 1, 2), link(3, 5, 4), link(5, 0, 6)}
	return c
}

// bare is of four nodes, each with two partitions of some bytes.
func bare() api.Config {
	c := plain()
	for p := range 8 {
		c.Parts = append(c.Parts, api.Part{Node: p / 2, From: 10 * p, To: 10*p + 10})
	}
	return c
}

// odd is with numbers and lists of all kinds, most of which may not be.
func odd(r *rand.Rand) api.Config {
	number := func() int {
		switch r.Intn(4) {
		case 0:
			return []int{-1 << 31, 1<<31 - 1, -1, 0, 1, 255, 256, 65535, 65536, 1 << 24, -256}[r.Intn(11)]
		case 1:
			return int(int32(r.Uint32()))
		}
		return r.Intn(12) - 2
	}
	row := func() []int {
		l := make([]int, r.Intn(5))
		for i := range l {
			l[i] = number()
		}
		return l
	}
	c := api.Config{Nodes: number(), Drift: number(), Reading: number(), Margin: number(), Bound: number(), Rejoin: number(), Quota: number(), Owners: row()}
	for range r.Intn(7) {
		c.Parts = append(c.Parts, api.Part{Node: number(), From: number(), To: number()})
	}
	for range r.Intn(5) {
		c.Windows = append(c.Windows, row())
	}
	for range r.Intn(7) {
		c.Ports = append(c.Ports, api.Port{Part: number(), Kind: number(), Dir: number(), Size: number(), Depth: number(), Fresh: number()})
	}
	for range r.Intn(7) {
		c.Links = append(c.Links, api.Link{Source: number(), Dests: row(), Offset: number()})
	}
	return c
}

// grown is c with all that is nil made an empty list (or the other way round).
func grown(c api.Config, empty bool) api.Config {
	c = copied(c)
	c.Owners = emptied(c.Owners, empty)
	c.Parts = emptied(c.Parts, empty)
	c.Windows = emptied(c.Windows, empty)
	for i := range c.Windows {
		c.Windows[i] = emptied(c.Windows[i], empty)
	}
	c.Ports = emptied(c.Ports, empty)
	c.Links = emptied(c.Links, empty)
	for i := range c.Links {
		c.Links[i].Dests = emptied(c.Links[i].Dests, empty)
	}
	return c
}

func emptied[T any](l []T, empty bool) []T {
	switch {
	case len(l) > 0:
		return l
	case empty:
		return []T{}
	}
	return nil
}

// copied shares nothing with c.
func copied(c api.Config) api.Config {
	c.Owners = slices.Clone(c.Owners)
	c.Parts = slices.Clone(c.Parts)
	c.Windows = slices.Clone(c.Windows)
	for i := range c.Windows {
		c.Windows[i] = slices.Clone(c.Windows[i])
	}
	c.Ports = slices.Clone(c.Ports)
	c.Links = slices.Clone(c.Links)
	for i := range c.Links {
		c.Links[i].Dests = slices.Clone(c.Links[i].Dests)
	}
	return c
}

// roomy is c with room behind each of its lists, in which marks stand.
func roomy(c api.Config) api.Config {
	c = copied(c)
	c.Owners = withRoom(c.Owners, -77)
	c.Parts = withRoom(c.Parts, api.Part{Node: -77})
	for i := range c.Windows {
		c.Windows[i] = withRoom(c.Windows[i], -77)
	}
	c.Windows = withRoom(c.Windows, []int{-77})
	c.Ports = withRoom(c.Ports, api.Port{Part: -77})
	for i := range c.Links {
		c.Links[i].Dests = withRoom(c.Links[i].Dests, -77)
	}
	c.Links = withRoom(c.Links, api.Link{Source: -77, Dests: []int{-77}})
	return c
}

func withRoom[T any](l []T, mark T) []T {
	n := len(l)
	for range 4 {
		l = append(l, mark)
	}
	return l[:n]
}

// whole is c with its lists as long as their room.
func whole(c api.Config) api.Config {
	c.Owners = c.Owners[:cap(c.Owners)]
	c.Parts = c.Parts[:cap(c.Parts)]
	c.Ports = c.Ports[:cap(c.Ports)]
	c.Windows = slices.Clone(c.Windows[:cap(c.Windows)])
	for i := range c.Windows {
		c.Windows[i] = c.Windows[i][:cap(c.Windows[i])]
	}
	c.Links = slices.Clone(c.Links[:cap(c.Links)])
	for i := range c.Links {
		c.Links[i].Dests = c.Links[i].Dests[:cap(c.Links[i].Dests)]
	}
	return c
}
