package plan_test

import (
	"bytes"
	"testing"

	"rota/api"
	"rota/cluster"
	"rota/plan"
)

// rounds are how many are run. In the first one each task sends by all its ports.
const rounds = 3

// P0.8, P17.4: a cluster that runs a plan gives each task as many windows of a round as
// it asked for, and brings what its streams were given to whom they go, in the first
// slot from then on that is the turn of the task's node.
func TestRun(t *testing.T) {
	sent := 0
	for _, d := range append([]api.Demand{ofTheChapter(), full()}, some()[6:500]...) {
		d.Quota = 16
		c, err := plan.Make(d)
		if err != api.OK {
			continue
		}
		k, err := cluster.New(c, programs(d), true)
		if err != api.OK {
			t.Fatalf("%v of the plan of %+v", err, d)
		}
		if _, err := k.Run(make([]api.Choice, rounds*d.Nodes)); err != api.OK {
			t.Fatal(err)
		}
		isGivenWindows(t, d, k)
		sent += isGivenTime(t, d, k)
	}
	if sent < 500 {
		t.Errorf("only %d messages", sent)
	}
}

// message is what a stream is given.
func message(d api.Demand, stream int) []byte {
	return bytes.Repeat([]byte{byte(stream + 1)}, d.Streams[stream].Size)
}

// programs are what tasks do: send by each stream of theirs, and yield in all windows.
// Those that a window has no room for are left out.
func programs(d api.Demand) [][]api.Op {
	l := make([][]api.Op, len(d.Tasks))
	for i, port := range sources(d) {
		from := d.Streams[i].From
		if len(l[from]) < d.Quota-1 {
			l[from] = append(l[from], api.Op{Kind: api.OpSend, Port: port, Data: message(d, i)})
		}
	}
	for task := range l {
		for range rounds * d.Nodes {
			l[task] = append(l[task], api.Op{Kind: api.OpYield})
		}
	}
	return l
}

// sources are, of each stream, the number of the port by which it is sent.
func sources(d api.Demand) []int {
	var l []int
	port := 0
	for _, s := range d.Streams {
		l = append(l, port)
		port += 1 + len(s.To)
	}
	return l
}

func isGivenWindows(t *testing.T, d api.Demand, k *cluster.Cluster) {
	t.Helper()
	for task, asked := range d.Tasks {
		ran := make([]map[int]bool, rounds)
		for round := range ran {
			ran[round] = map[int]bool{}
		}
		for _, r := range k.Trace(task) {
			if r.Err != api.OK {
				t.Fatalf("task %d of %+v: %+v", task, d, r)
			}
			ran[r.Slot/d.Nodes][r.Slot] = true
		}
		for round := range ran {
			if len(ran[round]) != asked.Share {
				t.Fatalf("task %d of %+v ran in %v", task, d, ran)
			}
		}
	}
}

// isGivenTime answers how many messages were held against the first time of each.
func isGivenTime(t *testing.T, d api.Demand, k *cluster.Cluster) int {
	t.Helper()
	type end struct{ stream, node, port int }
	came := map[end]int{}
	for _, x := range k.Deliveries() {
		e := end{x.Link, x.Node, x.Port}
		if _, is := came[e]; !is {
			came[e] = x.Slot
		}
		if !bytes.Equal(x.Data, message(d, x.Link)) {
			t.Fatalf("%+v came of %+v", x, d)
		}
	}
	sent := 0
	for i, port := range sources(d) {
		s := d.Streams[i]
		trace := k.Trace(s.From)
		// Of a port that was left out, or of a task that never ran, nothing comes.
		if ahead := sendsAhead(d, i); len(trace) == 0 || ahead >= d.Quota-1 {
			continue
		}
		turn := trace[0].Slot
		for turn%d.Nodes != d.Tasks[s.From].Node {
			turn++
		}
		for n, to := range s.To {
			sent++
			if slot, is := came[end{i, d.Tasks[to].Node, port + 1 + n}]; !is || slot != turn {
				t.Fatalf("stream %d of %+v came in slot %d, %v; not in %d", i, d, slot, is, turn)
			}
		}
	}
	return sent
}

// sendsAhead are how many streams ahead of one are from the same task.
func sendsAhead(d api.Demand, stream int) int {
	n := 0
	for _, s := range d.Streams[:stream] {
		if s.From == d.Streams[stream].From {
			n++
		}
	}
	return n
}
