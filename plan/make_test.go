package plan_test

import (
	"testing"

	"rota/api"
)

// P17.1: the chapter's examples.
func TestOfTheChapter(t *testing.T) {
	isPlan(t, ofTheChapter(), api.Config{
		Nodes: 4, Owners: []int{0, 1, 2, 3}, Margin: 2, Bound: 2, Rejoin: 1, Quota: 1,
		Parts:   []api.Part{{Node: 0, From: 0, To: 100}, {Node: 0, From: 100, To: 256}, {Node: 1, From: 0, To: 8}},
		Windows: [][]int{{0, 0, 1, 1}, {2, -1, -1, -1}, {-1, -1, -1, -1}, {-1, -1, -1, -1}},
		Ports:   []api.Port{{Part: 0, Kind: api.Sampling, Dir: api.Source, Size: 4}, {Part: 2, Kind: api.Sampling, Dir: api.Dest, Size: 4, Fresh: 9}},
		Links:   []api.Link{{Source: 0, Dests: []int{1}, Offset: 0}},
	})
	d := ofTheChapter()
	d.Tasks[1].Memory = 157
	hasNone(t, d, api.ErrParts)
	d = ofTheChapter()
	d.Tasks[1].Share = 3
	hasNone(t, d, api.ErrWindows)
}

// P17.1: a plan with something of everything, as it stands.
func TestFull(t *testing.T) {
	isPlan(t, full(), api.Config{
		Nodes: 5, Owners: []int{0, 1, 2, 3, 4}, Drift: 10, Reading: 2, Margin: 52, Bound: 52, Rejoin: 3, Quota: 16,
		Parts: []api.Part{
			{Node: 2, From: 0, To: 20}, {Node: 0, From: 0, To: 256}, {Node: 2, From: 20, To: 20},
			{Node: 4, From: 0, To: 7}, {Node: 2, From: 20, To: 50}, {Node: 1, From: 0, To: 1},
		},
		Windows: [][]int{{1, 1, 1, 1, 1}, {5, 5, 5, -1, -1}, {0, 2, 2, 4, -1}, {-1, -1, -1, -1, -1}, {-1, -1, -1, -1, -1}},
		Ports: []api.Port{
			{Part: 0, Kind: api.Queuing, Dir: api.Source, Size: 7, Depth: 8},
			{Part: 1, Kind: api.Queuing, Dir: api.Dest, Size: 7, Depth: 8},
			{Part: 3, Kind: api.Queuing, Dir: api.Dest, Size: 7, Depth: 8},
			{Part: 5, Kind: api.Queuing, Dir: api.Dest, Size: 7, Depth: 8},
			{Part: 5, Kind: api.Sampling, Dir: api.Source, Size: 32},
			{Part: 0, Kind: api.Sampling, Dir: api.Dest, Size: 32, Fresh: 65535},
			{Part: 4, Kind: api.Sampling, Dir: api.Source, Size: 1},
			{Part: 0, Kind: api.Sampling, Dir: api.Dest, Size: 1, Fresh: 1},
			{Part: 4, Kind: api.Sampling, Dir: api.Dest, Size: 1, Fresh: 1},
			{Part: 0, Kind: api.Queuing, Dir: api.Source, Size: 2, Depth: 1},
			{Part: 2, Kind: api.Queuing, Dir: api.Dest, Size: 2, Depth: 1},
		},
		Links: []api.Link{
			{Source: 0, Dests: []int{1, 2, 3}, Offset: 0},
			{Source: 4, Dests: []int{5}, Offset: 0},
			{Source: 6, Dests: []int{7, 8}, Offset: 8},
			{Source: 9, Dests: []int{10}, Offset: 10},
		},
	})
}

// P17.1: the plans, or errors, of demands of all kinds: there are many of each.
func TestMake(t *testing.T) {
	how := map[api.Errno]int{}
	for _, d := range some() {
		err := errorOf(d)
		how[err]++
		isOrNone(t, d, err)
	}
	for _, err := range []api.Errno{api.OK, api.ErrParts, api.ErrWindows, api.ErrLinks} {
		if how[err] < 100 {
			t.Errorf("only %d of error %v", how[err], err)
		}
	}
}

// P17.1: of nothing but nodes, as many as may be, and as few.
func TestOfNothing(t *testing.T) {
	for _, nodes := range []int{4, 16} {
		d := api.Demand{Nodes: nodes, Drift: 1, Reading: 1, Rejoin: 8, Quota: 1}
		isPlan(t, d, planOf(d))
		d.Tasks, d.Streams = []api.Task{}, []api.Stream{}
		isPlan(t, d, planOf(d))
	}
}

// P17.1: Margin and Bound are twice the precision, and Reading.
func TestClocks(t *testing.T) {
	for _, x := range []struct{ drift, reading, apart int }{
		{0, 0, 2}, {1, 0, 6}, {0, 1, 7}, {1, 1, 11}, {10, 2, 52}, {api.MaxMicro, api.MaxMicro, 9<<20 + 2},
	} {
		d := narrow()
		d.Drift, d.Reading = x.drift, x.reading
		want := planOf(d)
		want.Margin, want.Bound = x.apart, x.apart
		isPlan(t, d, want)
	}
}

// P17.1: just as much memory as a node has, and a byte more; of other nodes it is not
// taken.
func TestMemory(t *testing.T) {
	for _, x := range []struct {
		tasks []api.Task
		err   api.Errno
	}{
		{[]api.Task{{Memory: 256}}, api.OK},
		{[]api.Task{{Memory: 256}, {Memory: 0}}, api.OK},
		{[]api.Task{{Memory: 0}, {Memory: 256}}, api.OK},
		{[]api.Task{{Memory: 256}, {Memory: 1}}, api.ErrParts},
		{[]api.Task{{Memory: 1}, {Memory: 256}}, api.ErrParts},
		{[]api.Task{{Memory: 255}, {Memory: 1}}, api.OK},
		{[]api.Task{{Memory: 255}, {Node: 1, Memory: 256}, {Memory: 1}, {Node: 2, Memory: 256}}, api.OK},
		{[]api.Task{{Memory: 255}, {Node: 3, Memory: 200}, {Memory: 1}, {Node: 3, Memory: 57}}, api.ErrParts},
	} {
		d := api.Demand{Nodes: 4, Rejoin: 1, Quota: 1, Tasks: x.tasks}
		isOrNone(t, d, x.err)
	}
}

// P17.1: just as many windows as a row has, and one more; of other nodes they are not
// taken.
func TestWindows(t *testing.T) {
	for _, x := range []struct {
		tasks []api.Task
		err   api.Errno
	}{
		{[]api.Task{{Share: 4}}, api.OK},
		{[]api.Task{{Share: 4}, {Share: 0}}, api.OK},
		{[]api.Task{{Share: 0}, {Share: 4}}, api.OK},
		{[]api.Task{{Share: 4}, {Share: 1}}, api.ErrWindows},
		{[]api.Task{{Share: 1}, {Share: 4}}, api.ErrWindows},
		{[]api.Task{{Share: 1}, {Share: 1}, {Share: 1}, {Share: 1}}, api.OK},
		{[]api.Task{{Share: 1}, {Share: 1}, {Share: 1}, {Share: 1}, {Share: 1}}, api.ErrWindows},
		{[]api.Task{{Share: 3}, {Node: 1, Share: 4}, {Share: 1}, {Node: 2, Share: 4}}, api.OK},
		{[]api.Task{{Share: 3}, {Node: 3, Share: 3}, {Share: 1}, {Node: 3, Share: 2}}, api.ErrWindows},
	} {
		d := api.Demand{Nodes: 4, Rejoin: 1, Quota: 1, Tasks: x.tasks}
		isOrNone(t, d, x.err)
	}
}

// P17.1: just as many bytes as a payload has, and more; all tasks of one node share it,
// and other nodes' have no part of it.
func TestPayload(t *testing.T) {
	for _, x := range []struct {
		sizes []int
		err   api.Errno
	}{
		{[]int{31, 31}, api.OK},
		{[]int{31, 30}, api.OK},
		{[]int{32, 30}, api.OK},
		{[]int{32, 31}, api.ErrLinks},
		{[]int{31, 31, 1}, api.ErrLinks},
		{[]int{31, 29, 1}, api.OK},
		{[]int{31, 30, 1}, api.ErrLinks},
		{[]int{1, 1, 1, 1, 1, 1, 1, 1, 1, 1, 1, 1, 1, 1, 1, 1, 1, 1, 1, 1, 1, 1, 1, 1, 1, 1, 1, 1, 1, 1, 1, 1}, api.OK},
		{[]int{2, 1, 1, 1, 1, 1, 1, 1, 1, 1, 1, 1, 1, 1, 1, 1, 1, 1, 1, 1, 1, 1, 1, 1, 1, 1, 1, 1, 1, 1, 1, 1}, api.ErrLinks},
	} {
		d := narrow(x.sizes...)
		d.Tasks = append(d.Tasks, api.Task{Node: 0})
		isOrNone(t, d, x.err)
		// Another task of the same node.
		d.Streams[len(d.Streams)-1].From = 4
		isOrNone(t, d, x.err)
		// And one of another node.
		d.Streams[len(d.Streams)-1].From = 3
		isOrNone(t, d, api.OK)
	}
}

// P17.1: of several errors the first, whichever node they are of.
func TestOrderOfErrors(t *testing.T) {
	for bits := range 16 {
		d, want := narrow(31, 31), api.OK
		if bits&1 > 0 {
			d.Streams[1].Size, want = 32, api.ErrLinks
		}
		if bits&2 > 0 {
			d.Tasks, want = append(d.Tasks, api.Task{Node: 1, Share: 4}), api.ErrWindows
		}
		if bits&4 > 0 {
			d.Tasks, want = append(d.Tasks, api.Task{Node: 2, Memory: 249}), api.ErrParts
		}
		if bits&8 > 0 {
			d.Quota, want = 17, api.ErrArg
		}
		isOrNone(t, d, want)
	}
}
