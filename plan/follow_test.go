package plan_test

import (
	"testing"

	"rota/api"
	"rota/config"
	"rota/plan"
)

// P17.4: each plan may be.
func TestCheckTakesPlans(t *testing.T) {
	plans := 0
	for _, d := range append(some(), greatest()...) {
		c, err := plan.Make(d)
		if err != api.OK {
			continue
		}
		plans++
		if err := config.Check(c); err != api.OK {
			t.Errorf("%v of %+v, the plan of %+v", err, c, d)
		}
	}
	if plans < 500 {
		t.Errorf("only %d plans", plans)
	}
}

// greatest are demands with as much of everything as a plan can have.
func greatest() []api.Demand {
	d := api.Demand{Nodes: 16, Drift: api.MaxMicro, Reading: api.MaxMicro, Rejoin: api.MaxRejoin, Quota: api.MaxQuota}
	for task := range 32 {
		d.Tasks = append(d.Tasks, api.Task{Node: task % 16, Memory: 128, Share: 8})
		s := api.Stream{From: task, To: []int{31 - task}, Kind: api.Sampling, Size: 31, Fresh: 65535}
		if task%3 == 0 {
			s.Kind, s.Fresh, s.Depth = api.Queuing, 0, api.MaxDepth
		}
		d.Streams = append(d.Streams, s)
	}
	all := api.Demand{Nodes: 4, Rejoin: 1, Quota: 1, Tasks: make([]api.Task, 32)}
	for size := 30; size <= 31; size++ {
		s := api.Stream{From: size, Kind: api.Queuing, Size: size, Depth: 1}
		for to := range size {
			s.To = append(s.To, to)
		}
		all.Streams = append(all.Streams, s)
	}
	return []api.Demand{d, all}
}

// P17.4: Make has an error just if a node's load is greater than it has room for.
func TestErrorsJustByLoad(t *testing.T) {
	for _, d := range append(some(), greatest()...) {
		memory, shares, payload := plan.Load(d)
		fits := true
		for node := range d.Nodes {
			fits = fits && memory[node] <= 256 && shares[node] <= d.Nodes && payload[node] <= 64
		}
		if _, err := plan.Make(d); (err == api.OK) != fits {
			t.Errorf("%+v: %v, loads %v, %v, %v", d, err, memory, shares, payload)
		}
	}
}

// P17.4: in a plan a task reaches another one just if streams lead there.
func TestReach(t *testing.T) {
	for _, d := range append(some(), greatest()...) {
		c, err := plan.Make(d)
		if err != api.OK {
			continue
		}
		leads, reach := lead(d), config.Reach(c)
		for p := range d.Tasks {
			for q := range d.Tasks {
				if reach[p][q] != leads[p][q] {
					t.Fatalf("from %d to %d: %v in the plan of %+v", p, q, reach[p][q], d)
				}
			}
		}
	}
}

// lead tells, of each two tasks, whether streams lead from the one to the other: over
// none, or over more and more of the others.
func lead(d api.Demand) [][]bool {
	l := make([][]bool, len(d.Tasks))
	for p := range l {
		l[p] = make([]bool, len(d.Tasks))
		l[p][p] = true
	}
	for _, s := range d.Streams {
		for _, to := range s.To {
			l[s.From][to] = true
		}
	}
	for over := range l {
		for p := range l {
			for q := range l {
				l[p][q] = l[p][q] || l[p][over] && l[over][q]
			}
		}
	}
	return l
}
