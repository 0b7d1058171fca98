package plan_test

import (
	"testing"

	"rota/api"
)

// P17.2: what each node is asked for, as it stands.
func TestLoadOfFull(t *testing.T) {
	isLoad(t, ofTheChapter(), []int{256, 8, 0, 0}, []int{4, 1, 0, 0}, []int{5, 0, 0, 0})
	isLoad(t, full(), []int{256, 1, 50, 0, 7}, []int{5, 3, 4, 0, 0}, []int{0, 33, 13, 0, 0})
	isLoad(t, narrow(), []int{8, 8, 8, 8}, []int{1, 1, 1, 1}, []int{0, 0, 0, 0})
}

// P17.2: of demands of all kinds, whether they have a plan or not.
func TestLoad(t *testing.T) {
	for _, d := range some() {
		var memory, shares, payload []int
		for node := range d.Nodes {
			n := sumsOf(d, node)
			memory, shares, payload = append(memory, n.memory), append(shares, n.shares), append(payload, n.payload)
		}
		isLoad(t, d, memory, shares, payload)
	}
}

// P17.2: the greatest load of one node that may be asked for.
func TestGreatestLoad(t *testing.T) {
	d := api.Demand{Nodes: 16, Rejoin: 1, Quota: 1}
	for range 32 {
		d.Tasks = append(d.Tasks, api.Task{Node: 15, Memory: 256, Share: 16})
		d.Streams = append(d.Streams, api.Stream{From: 31, To: []int{0}, Kind: api.Queuing, Size: 32, Depth: 8})
	}
	last := func(n int) []int { return append(make([]int, 15), n) }
	isLoad(t, d, last(32*256), last(32*16), last(32*33))
	hasNone(t, d, api.ErrParts)
}

// P17.2: nothing of a demand that may not be, whatever else it asks for.
func TestLoadOfNone(t *testing.T) {
	for _, turn := range []func(d *api.Demand){
		func(d *api.Demand) { d.Nodes = 3 },
		func(d *api.Demand) { d.Nodes = most },
		func(d *api.Demand) { d.Drift = -1 },
		func(d *api.Demand) { d.Tasks[5].Node = 5 },
		func(d *api.Demand) { d.Tasks[0].Memory = 257 },
		func(d *api.Demand) { d.Streams[3].From = 6 },
		func(d *api.Demand) { d.Streams[0].To = nil },
	} {
		d := full()
		turn(&d)
		isLoad(t, d, nil, nil, nil)
		hasNone(t, d, api.ErrArg)
	}
	isLoad(t, api.Demand{}, nil, nil, nil)
	hasNone(t, api.Demand{}, api.ErrArg)
}
