package plan_test

import (
	"math/rand"
	"reflect"
	"slices"
	"testing"

	"rota/api"
	"rota/plan"
)

// The ends of all ints.
const (
	most  = 1<<63 - 1
	least = -1 << 63
)

// ofTheChapter is the demand of the chapter's examples.
func ofTheChapter() api.Demand {
	return api.Demand{
		Nodes: 4, Rejoin: 1, Quota: 1,
		Tasks:   []api.Task{{Node: 0, Memory: 100, Share: 2}, {Node: 0, Memory: 156, Share: 2}, {Node: 1, Memory: 8, Share: 1}},
		Streams: []api.Stream{{From: 0, To: []int{2}, Kind: api.Sampling, Size: 4, Fresh: 9}},
	}
}

// full is of five nodes, with something of everything: tasks of one node that do not
// stand side by side, some without memory or windows, and a node without tasks; streams
// of both kinds, to several, to their own node, and to the very task that they are from.
func full() api.Demand {
	return api.Demand{
		Nodes: 5, Drift: 10, Reading: 2, Rejoin: 3, Quota: 16,
		Tasks: []api.Task{
			{Node: 2, Memory: 20, Share: 1},
			{Node: 0, Memory: 256, Share: 5},
			{Node: 2, Memory: 0, Share: 2},
			{Node: 4, Memory: 7, Share: 0},
			{Node: 2, Memory: 30, Share: 1},
			{Node: 1, Memory: 1, Share: 3},
		},
		Streams: []api.Stream{
			{From: 0, To: []int{1, 3, 5}, Kind: api.Queuing, Size: 7, Depth: 8},
			{From: 5, To: []int{0}, Kind: api.Sampling, Size: 32, Fresh: 65535},
			{From: 4, To: []int{0, 4}, Kind: api.Sampling, Size: 1, Fresh: 1},
			{From: 0, To: []int{2}, Kind: api.Queuing, Size: 2, Depth: 1},
		},
	}
}

// narrow is of four nodes, each with one task, and of as many streams as there are
// sizes, all from the task of node 0.
func narrow(sizes ...int) api.Demand {
	d := api.Demand{Nodes: 4, Rejoin: 1, Quota: 1}
	for node := range 4 {
		d.Tasks = append(d.Tasks, api.Task{Node: node, Memory: 8, Share: 1})
	}
	for _, size := range sizes {
		d.Streams = append(d.Streams, api.Stream{From: 0, To: []int{1}, Kind: api.Queuing, Size: size, Depth: 1})
	}
	return d
}

// asked may be. Some of its nodes are asked for more than they have.
func asked(r *rand.Rand) api.Demand {
	d := api.Demand{
		Nodes: 4 + r.Intn(13), Drift: r.Intn(api.MaxMicro + 1), Reading: r.Intn(api.MaxMicro + 1),
		Rejoin: 1 + r.Intn(api.MaxRejoin), Quota: 1 + r.Intn(api.MaxQuota),
	}
	bytes, share := 1+r.Intn(120), 1+r.Intn(d.Nodes)
	for range r.Intn(api.MaxParts + 1) {
		d.Tasks = append(d.Tasks, api.Task{Node: r.Intn(d.Nodes), Memory: r.Intn(bytes), Share: r.Intn(share)})
	}
	if len(d.Tasks) == 0 {
		return d
	}
	size := 1 + r.Intn(api.MaxSize)
	for left := r.Intn(api.MaxPorts + 1); ; {
		s := api.Stream{From: r.Intn(len(d.Tasks)), To: tasks(r, len(d.Tasks)), Kind: api.Sampling, Size: 1 + r.Intn(size)}
		if r.Intn(2) == 0 {
			s.Fresh = 1 + r.Intn(65535)
		} else {
			s.Kind, s.Depth = api.Queuing, 1+r.Intn(api.MaxDepth)
		}
		if left -= 1 + len(s.To); left < 0 {
			return d
		}
		d.Streams = append(d.Streams, s)
	}
}

// tasks are some tasks' numbers, rising.
func tasks(r *rand.Rand, many int) []int {
	l := r.Perm(many)[:1+r.Intn(min(many, 3))]
	slices.Sort(l)
	return l
}

// some are the demands that are named above, and many by chance.
func some() []api.Demand {
	l := []api.Demand{ofTheChapter(), full(), narrow(), narrow(1), narrow(31, 31), narrow(31, 31, 1)}
	r := rand.New(rand.NewSource(17))
	for range 3000 {
		l = append(l, asked(r))
	}
	return l
}

// copied shares nothing with d.
func copied(d api.Demand) api.Demand {
	d.Tasks = slices.Clone(d.Tasks)
	d.Streams = slices.Clone(d.Streams)
	for i := range d.Streams {
		d.Streams[i].To = slices.Clone(d.Streams[i].To)
	}
	return d
}

// sums are what the tasks and streams of one node come to.
type sums struct{ memory, shares, payload int }

func sumsOf(d api.Demand, node int) sums {
	var n sums
	for _, t := range d.Tasks {
		if t.Node == node {
			n.memory += t.Memory
			n.shares += t.Share
		}
	}
	for _, s := range d.Streams {
		if d.Tasks[s.From].Node == node {
			n.payload += 1 + s.Size
		}
	}
	return n
}

// errorOf is Make's error of a demand that may be, by what its nodes are asked for.
func errorOf(d api.Demand) api.Errno {
	worst := api.OK
	for node := range d.Nodes {
		n, err := sumsOf(d, node), api.OK
		switch {
		case n.memory > 256:
			err = api.ErrParts
		case n.shares > d.Nodes:
			err = api.ErrWindows
		case n.payload > 64:
			err = api.ErrLinks
		}
		if err != api.OK && (worst == api.OK || err < worst) {
			worst = err
		}
	}
	return worst
}

// planOf is the plan of a demand that has one. Nothing is ever given back, so that what
// is laid first stands behind all that was laid on its node ahead of it.
func planOf(d api.Demand) api.Config {
	apart := 2*(2*(d.Drift+d.Reading)+1) + d.Reading
	c := api.Config{Nodes: d.Nodes, Drift: d.Drift, Reading: d.Reading, Margin: apart, Bound: apart, Rejoin: d.Rejoin, Quota: d.Quota}
	for node := range d.Nodes {
		c.Owners = append(c.Owners, node)
		var row []int
		for i, t := range d.Tasks {
			if t.Node == node {
				row = append(row, slices.Repeat([]int{i}, t.Share)...)
			}
		}
		c.Windows = append(c.Windows, append(row, slices.Repeat([]int{-1}, d.Nodes-len(row))...))
	}
	for i, t := range d.Tasks {
		ahead := sumsOf(api.Demand{Tasks: d.Tasks[:i]}, t.Node).memory
		c.Parts = append(c.Parts, api.Part{Node: t.Node, From: ahead, To: ahead + t.Memory})
	}
	for i, s := range d.Streams {
		ahead := sumsOf(api.Demand{Tasks: d.Tasks, Streams: d.Streams[:i]}, d.Tasks[s.From].Node).payload
		l := api.Link{Source: len(c.Ports), Offset: ahead}
		c.Ports = append(c.Ports, api.Port{Part: s.From, Kind: s.Kind, Dir: api.Source, Size: s.Size, Depth: s.Depth})
		for _, t := range s.To {
			l.Dests = append(l.Dests, len(c.Ports))
			c.Ports = append(c.Ports, api.Port{Part: t, Kind: s.Kind, Dir: api.Dest, Size: s.Size, Depth: s.Depth, Fresh: s.Fresh})
		}
		c.Links = append(c.Links, l)
	}
	return c
}

// same holds them against each other piece by piece; lists that are nil and empty ones
// are the same.
func same(a, b api.Config) bool {
	rest := func(c api.Config) api.Config {
		c.Owners, c.Parts, c.Windows, c.Ports, c.Links = nil, nil, nil, nil, nil
		return c
	}
	links := func(k, l api.Link) bool {
		return k.Source == l.Source && k.Offset == l.Offset && slices.Equal(k.Dests, l.Dests)
	}
	return reflect.DeepEqual(rest(a), rest(b)) && slices.Equal(a.Owners, b.Owners) && slices.Equal(a.Parts, b.Parts) &&
		slices.EqualFunc(a.Windows, b.Windows, slices.Equal[[]int]) && slices.Equal(a.Ports, b.Ports) && slices.EqualFunc(a.Links, b.Links, links)
}

// Each of these tells of any other answer than the one that is wanted.

func isPlan(t *testing.T, d api.Demand, want api.Config) {
	t.Helper()
	if c, err := plan.Make(d); err != api.OK || !same(c, want) {
		t.Errorf("%+v: %+v, %v; want %+v", d, c, err, want)
	}
}

func hasNone(t *testing.T, d api.Demand, want api.Errno) {
	t.Helper()
	if c, err := plan.Make(d); err != want || !same(c, api.Config{}) {
		t.Errorf("%+v: %+v, %v; want %v", d, c, err, want)
	}
}

func isOrNone(t *testing.T, d api.Demand, err api.Errno) {
	t.Helper()
	if err == api.OK {
		isPlan(t, d, planOf(d))
	} else {
		hasNone(t, d, err)
	}
}

func isLoad(t *testing.T, d api.Demand, memory, shares, payload []int) {
	t.Helper()
	if m, s, p := plan.Load(d); !slices.Equal(m, memory) || !slices.Equal(s, shares) || !slices.Equal(p, payload) {
		t.Errorf("%+v: %v, %v, %v; want %v, %v, %v", d, m, s, p, memory, shares, payload)
	}
}

// may tells whether a demand may be, and so have all three calls.
func may(t *testing.T, d api.Demand, want bool, what ...any) {
	t.Helper()
	if is := plan.May(d); is != want {
		t.Errorf("%v: %v; want %v", what, is, want)
	}
	if c, err := plan.Make(d); (err == api.ErrArg) == want || !want && !same(c, api.Config{}) {
		t.Errorf("%v: %+v, %v", what, c, err)
	}
	m, s, p := plan.Load(d)
	if !want && (len(m) > 0 || len(s) > 0 || len(p) > 0) || want && (len(m) != d.Nodes || len(s) != d.Nodes || len(p) != d.Nodes) {
		t.Errorf("%v: %v, %v, %v", what, m, s, p)
	}
}
