package plan_test

import (
	"slices"
	"testing"

	"rota/api"
)

// wide are numbers far from all that may be, some of which are small ones with bits
// above.
var wide = []int{-1, -2, least, least + 1, most, most - 1, 1 << 31, -1 << 31, 1 << 32, 1<<32 + 1, 1<<32 + 4, -1<<32 + 1, 1<<16 + 1, 257}

// number is one of a demand's, and which it may be.
type number struct {
	name       string
	at         func(d *api.Demand) *int
	from, upTo int
}

// numbers are those of the demand of trial: one of each field.
func numbers() []number {
	return []number{
		{"Nodes", func(d *api.Demand) *int { return &d.Nodes }, 4, 16},
		{"Drift", func(d *api.Demand) *int { return &d.Drift }, 0, 1 << 20},
		{"Reading", func(d *api.Demand) *int { return &d.Reading }, 0, 1 << 20},
		{"Rejoin", func(d *api.Demand) *int { return &d.Rejoin }, 1, 8},
		{"Quota", func(d *api.Demand) *int { return &d.Quota }, 1, 16},
		{"Node", func(d *api.Demand) *int { return &d.Tasks[3].Node }, 0, 3},
		{"Memory", func(d *api.Demand) *int { return &d.Tasks[3].Memory }, 0, 256},
		{"Share", func(d *api.Demand) *int { return &d.Tasks[3].Share }, 0, 4},
		{"From", func(d *api.Demand) *int { return &d.Streams[0].From }, 0, 3},
		{"To", func(d *api.Demand) *int { return &d.Streams[0].To[0] }, 0, 3},
		{"Size of Queuing", func(d *api.Demand) *int { return &d.Streams[0].Size }, 1, 32},
		{"Depth of Queuing", func(d *api.Demand) *int { return &d.Streams[0].Depth }, 1, 8},
		{"Fresh of Queuing", func(d *api.Demand) *int { return &d.Streams[0].Fresh }, 0, 0},
		{"Kind of Queuing", func(d *api.Demand) *int { return &d.Streams[0].Kind }, 2, 2},
		{"Size of Sampling", func(d *api.Demand) *int { return &d.Streams[1].Size }, 1, 32},
		{"Depth of Sampling", func(d *api.Demand) *int { return &d.Streams[1].Depth }, 0, 0},
		{"Fresh of Sampling", func(d *api.Demand) *int { return &d.Streams[1].Fresh }, 1, 65535},
		{"Kind of Sampling", func(d *api.Demand) *int { return &d.Streams[1].Kind }, 1, 1},
		{"the last of To", func(d *api.Demand) *int { return &d.Streams[1].To[1] }, 2, 3},
	}
}

// trial is of four tasks, and of a stream of each kind.
func trial() api.Demand {
	d := narrow(4)
	d.Streams = append(d.Streams, api.Stream{From: 2, To: []int{1, 3}, Kind: api.Sampling, Size: 4, Fresh: 5})
	return d
}

// P17.1: of each number, by itself: the least and the greatest that may be, what is
// beside them, and what is far away.
func TestEachNumber(t *testing.T) {
	may(t, trial(), true, "trial")
	for _, n := range numbers() {
		l := append([]int{n.from - 1, n.from, (n.from + n.upTo) / 2, n.upTo, n.upTo + 1, 0}, wide...)
		for _, x := range l {
			d := trial()
			*n.at(&d) = x
			may(t, d, n.from <= x && x <= n.upTo, n.name, x)
		}
	}
}

// P17.1: a kind that there is not, with whatever numbers.
func TestNoKind(t *testing.T) {
	for _, kind := range append([]int{0, 3}, wide...) {
		for _, depth := range []int{0, 1, 8} {
			for _, fresh := range []int{0, 1, 65535} {
				d := trial()
				d.Streams[0].Kind, d.Streams[0].Depth, d.Streams[0].Fresh = kind, depth, fresh
				may(t, d, false, kind, depth, fresh)
			}
		}
	}
}

// P17.1: a node's number is below Nodes, and a Share is Nodes at most, how many they
// ever are.
func TestAsManyAsNodes(t *testing.T) {
	for nodes := 4; nodes <= 16; nodes++ {
		for x := -1; x <= 17; x++ {
			d := api.Demand{Nodes: nodes, Rejoin: 1, Quota: 1}
			d.Tasks = []api.Task{{Node: x}}
			may(t, d, 0 <= x && x < nodes, nodes, "node", x)
			d.Tasks = []api.Task{{Node: nodes - 1, Share: x}}
			may(t, d, 0 <= x && x <= nodes, nodes, "share", x)
		}
	}
}

// P17.1: whom a stream goes to: one at least, tasks' numbers, rising, each once; the
// task that it is from may be among them.
func TestTo(t *testing.T) {
	for _, x := range []struct {
		to []int
		is bool
	}{
		{nil, false}, {[]int{}, false},
		{[]int{0}, true}, {[]int{3}, true}, {[]int{0, 1, 2, 3}, true}, {[]int{0, 3}, true}, {[]int{1, 2}, true},
		{[]int{4}, false}, {[]int{-1}, false}, {[]int{-1, 0}, false}, {[]int{3, 4}, false}, {[]int{0, 1, 2, 3, 4}, false},
		{[]int{1, 1}, false}, {[]int{0, 0}, false}, {[]int{3, 3}, false}, {[]int{0, 1, 1}, false},
		{[]int{2, 1}, false}, {[]int{0, 2, 1}, false}, {[]int{1, 2, 0}, false}, {[]int{3, 2, 1, 0}, false},
		{[]int{least, 0}, false}, {[]int{0, most}, false}, {[]int{1 << 32}, false},
	} {
		d := trial()
		d.Streams[0].To = x.to
		may(t, d, x.is, x.to)
	}
}

// P17.1: each of the tasks and streams is looked at, wherever it stands.
func TestEachPlace(t *testing.T) {
	for i := range 32 {
		for _, x := range []int{-1, 4} {
			d := api.Demand{Nodes: 4, Rejoin: 1, Quota: 1, Tasks: make([]api.Task, 32)}
			may(t, d, true, "tasks")
			d.Tasks[i].Node = x
			may(t, d, false, "task", i, x)
			d = narrow(slices.Repeat([]int{1}, 32)...)
			may(t, d, true, "streams")
			d.Streams[i].From = x
			may(t, d, false, "stream", i, x)
		}
	}
}

// P17.1: how many nodes there are, whoever runs on them.
func TestHowManyNodes(t *testing.T) {
	for _, nodes := range append([]int{0, 1, 2, 3, 4, 5, 15, 16, 17, 18, 32}, wide...) {
		d := api.Demand{Nodes: nodes, Rejoin: 1, Quota: 1}
		may(t, d, 4 <= nodes && nodes <= 16, nodes, "bare")
		d.Tasks = []api.Task{{Node: 0, Memory: 1, Share: 1}}
		may(t, d, 4 <= nodes && nodes <= 16, nodes, "one task")
	}
}

// P17.1: how many tasks there are at most, and none.
func TestHowManyTasks(t *testing.T) {
	for _, n := range []int{0, 1, 31, 32, 33, 34, 64, 1000} {
		d := api.Demand{Nodes: 16, Rejoin: 1, Quota: 1, Tasks: make([]api.Task, n)}
		may(t, d, n <= 32, n)
	}
	// Without tasks nobody can send.
	d := narrow(4)
	d.Tasks = nil
	may(t, d, false, "no task")
	d.Streams[0].To = nil
	may(t, d, false, "no task, to none")
}

// P17.1: how many ports all streams have together: one, and as many as To, each.
func TestHowManyPorts(t *testing.T) {
	for _, n := range []int{31, 32, 33, 64, 65, 1000} {
		may(t, narrow(slices.Repeat([]int{1}, n)...), n <= 32, n, "streams")
	}
	for first := 1; first <= 32; first++ {
		for second := 1; second <= 32; second++ {
			d := api.Demand{Nodes: 4, Rejoin: 1, Quota: 1, Tasks: make([]api.Task, 32)}
			for _, n := range []int{first, second} {
				s := api.Stream{To: []int{}, Kind: api.Sampling, Size: 1, Fresh: 1}
				for to := range n {
					s.To = append(s.To, to)
				}
				d.Streams = append(d.Streams, s)
			}
			may(t, d, 1+first+1+second <= 64, first, second)
		}
	}
}

// P17.1: whether a demand may be does not hang on whether it has a plan.
func TestMayWithoutPlan(t *testing.T) {
	for _, d := range some() {
		may(t, d, true, d)
	}
}
