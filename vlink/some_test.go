package vlink_test

import (
	"bytes"
	"math"
	"slices"
	"testing"

	"rota/api"
	"rota/vlink"
)

type payload = [api.Payload]byte

// ends are numbers at the ends of int, and such as are small ones with bits
// above.
var ends = []int{-1, -2, math.MinInt, math.MinInt32, math.MaxInt, math.MaxInt32, 1 << 32, 1<<32 + 1, 256, 257}

func source(part, kind, size int) api.Port {
	p := api.Port{Part: part, Kind: kind, Dir: api.Source, Size: size}
	if kind == api.Queuing {
		p.Depth = 1
	}
	return p
}

func dest(part, kind, size int) api.Port {
	p := source(part, kind, size)
	p.Dir = api.Dest
	if kind == api.Sampling {
		p.Fresh = 3
	}
	return p
}

// bare is of so many nodes, without partitions.
func bare(nodes int) api.Config {
	c := api.Config{Nodes: nodes, Margin: 60, Bound: 60, Rejoin: 1, Quota: 1}
	for n := range nodes {
		c.Owners = append(c.Owners, n)
		row := make([]int, nodes)
		for i := range row {
			row[i] = -1
		}
		c.Windows = append(c.Windows, row)
	}
	return c
}

// some is of four nodes, whose links are neither in the order of their nodes,
// nor of their ports, nor of their places. Of node 2 are links 1, 2 and 3,
// which fill its payload but for bytes 5 to 30; of node 0 link 0; of node 1
// link 4, at the end; of node 3 none.
func some() api.Config {
	const sampling, queuing = api.Sampling, api.Queuing
	c := bare(4)
	c.Owners = []int{2, 0, 1, 3}
	c.Parts = []api.Part{{Node: 2}, {Node: 0}, {Node: 2, To: 256}, {Node: 1}, {Node: 0}, {Node: 3}}
	c.Ports = []api.Port{
		source(0, queuing, 32),
		dest(1, queuing, 32),
		source(2, sampling, 1),
		dest(3, sampling, 1),
		dest(4, sampling, 1),
		dest(1, sampling, 1),
		dest(0, sampling, 1),
		source(1, sampling, 2),
		dest(2, sampling, 2),
		source(0, queuing, 2),
		dest(5, queuing, 2),
		source(4, sampling, 2), // in no link
		source(3, queuing, 2),
		dest(1, queuing, 2),
	}
	c.Links = []api.Link{
		{Source: 7, Dests: []int{8}, Offset: 2},
		{Source: 0, Dests: []int{1}, Offset: 31},
		{Source: 2, Dests: []int{5, 3, 6, 4}, Offset: 0},
		{Source: 9, Dests: []int{10}, Offset: 2},
		{Source: 12, Dests: []int{13}, Offset: 61},
	}
	return c
}

// chapters is the configuration of the chapter's examples.
func chapters() api.Config {
	c := bare(4)
	c.Parts = []api.Part{{Node: 2}, {Node: 0}}
	c.Ports = []api.Port{source(0, api.Sampling, 2), dest(1, api.Sampling, 2), dest(0, api.Sampling, 2)}
	c.Links = []api.Link{{Source: 0, Dests: []int{1, 2}, Offset: 3}}
	return c
}

// spoil makes all lists of c say something that may not be.
func spoil(c api.Config) {
	for i := range c.Owners {
		c.Owners[i] = -9
	}
	for i := range c.Parts {
		c.Parts[i] = api.Part{Node: -9, From: -9}
	}
	for i := range c.Windows {
		c.Windows[i] = nil
	}
	for i := range c.Ports {
		c.Ports[i] = api.Port{Part: -9, Size: 1 << 40}
	}
	for i := range c.Links {
		for j := range c.Links[i].Dests {
			c.Links[i].Dests[j] = 1 << 40
		}
		c.Links[i] = api.Link{Source: 1 << 40, Offset: -9}
	}
}

// wrong are configurations that may not be, and what error each has.
func wrong() map[api.Errno]api.Config {
	all := map[api.Errno]api.Config{}
	for err, turn := range map[api.Errno]func(*api.Config){
		api.ErrNodes:   func(c *api.Config) { c.Owners[0] = 3 },
		api.ErrClock:   func(c *api.Config) { c.Quota = 0 },
		api.ErrParts:   func(c *api.Config) { c.Parts[3].Node = 4 },
		api.ErrWindows: func(c *api.Config) { c.Windows[3][3] = 0 },
		api.ErrPorts:   func(c *api.Config) { c.Ports[3].Part = 6 },
		api.ErrLinks:   func(c *api.Config) { c.Links[4].Offset = 62 },
	} {
		c := some()
		turn(&c)
		all[err] = c
	}
	return all
}

// bytesAt is a payload in which some bytes stand from one on.
func bytesAt(from int, b ...byte) payload {
	var p payload
	copy(p[from:], b)
	return p
}

// with is p, in which a message is laid from one byte on.
func with(p payload, from int, message ...byte) payload {
	p[from] = 1
	copy(p[from+1:], message)
	return p
}

// long is a message of link 1 of some; allOf2 are messages of all links of its
// node 2, and laidOf2 is how they are laid.
var long = counting(100, 32)

func allOf2() map[int][]byte { return map[int][]byte{0: long, 2: {9}, 9: {7, 8}} }

func laidOf2() payload { return with(bytesAt(0, 1, 9, 1, 7, 8), 31, long...) }

// counting is as many bytes, which count on from one.
func counting(from byte, n int) []byte {
	b := make([]byte, n)
	for i := range b {
		b[i] = from + byte(i)
	}
	return b
}

// handing answers what stands in a map, by port, and nothing else.
func handing(messages map[int][]byte) func(int) ([]byte, bool) {
	return func(port int) ([]byte, bool) {
		data, ok := messages[port]
		return data, ok
	}
}

// always answers one and the same message.
func always(data ...byte) func(int) ([]byte, bool) {
	return func(int) ([]byte, bool) { return data, true }
}

// arrival is what was handed to a port.
type arrival struct {
	port int
	data []byte
	slot int
}

// mustPack ends the test if there is an error.
func mustPack(t *testing.T, c api.Config, node int, take func(int) ([]byte, bool)) payload {
	t.Helper()
	p, err := vlink.Pack(c, node, take)
	if err != api.OK {
		t.Fatalf("pack of %d: %v", node, err)
	}
	return p
}

// mustUnpack ends the test if there is an error.
func mustUnpack(t *testing.T, c api.Config, owner int, p payload) []api.Arrival {
	t.Helper()
	l, err := vlink.Unpack(c, owner, p)
	if err != api.OK {
		t.Fatalf("unpack of %d: %v", owner, err)
	}
	return l
}

// mustDeliver is what was handed; it ends the test if there is an error, or
// another number of it.
func mustDeliver(t *testing.T, c api.Config, owner, node, slot int, p payload) []arrival {
	t.Helper()
	var all []arrival
	n, err := vlink.Deliver(c, owner, node, slot, p, func(port int, data []byte, slot int) api.Errno {
		all = append(all, arrival{port, data, slot})
		return api.OK
	})
	if err != api.OK || n != len(all) {
		t.Fatalf("from %d to %d: %d, %v, not %d", owner, node, n, err, len(all))
	}
	return all
}

// Each of these tells of any other answer than the one that is wanted.

func packs(t *testing.T, c api.Config, node int, take func(int) ([]byte, bool), want payload) {
	t.Helper()
	if p := mustPack(t, c, node, take); p != want {
		t.Errorf("pack of %d: %v, not %v", node, p, want)
	}
}

func unpacks(t *testing.T, c api.Config, owner int, p payload, want ...api.Arrival) {
	t.Helper()
	l := mustUnpack(t, c, owner, p)
	if !slices.EqualFunc(l, want, sameArrival) {
		t.Errorf("unpack of %d: %v, not %v", owner, l, want)
	}
}

func sameArrival(a, b api.Arrival) bool {
	return a.Link == b.Link && a.Valid == b.Valid && bytes.Equal(a.Data, b.Data)
}

func delivers(t *testing.T, c api.Config, owner, node, slot int, p payload, want ...arrival) {
	t.Helper()
	l := mustDeliver(t, c, owner, node, slot, p)
	same := func(a, b arrival) bool {
		return a.port == b.port && a.slot == b.slot && bytes.Equal(a.data, b.data)
	}
	if !slices.EqualFunc(l, want, same) {
		t.Errorf("from %d to %d in %d: %v, not %v", owner, node, slot, l, want)
	}
}

// came is a message of a link; none is that it has none.
func came(link int, data ...byte) api.Arrival {
	return api.Arrival{Link: link, Valid: true, Data: data}
}

func none(link int) api.Arrival { return api.Arrival{Link: link} }

// ones is as many bytes 1.
func ones(n int) []byte { return bytes.Repeat([]byte{1}, n) }
