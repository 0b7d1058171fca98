package timing_test

import (
	"bytes"
	"slices"
	"testing"

	"rota/api"
	"rota/cluster"
	"rota/timing"
)

// rounds are how many are run. What is sent in the first two of them comes by then.
const rounds = 4

// P18.5: what a partition of a hot cluster to which nothing happens sends in a slot, by a
// link of its own, is received in its getting by who asks in each of its windows, and no
// sooner: by each link, in each window of two rounds.
func TestRun(t *testing.T) {
	got := 0
	for _, c := range some()[:22] {
		for link, l := range c.Links {
			from := c.Ports[l.Source].Part
			for slot := range 2 * c.Nodes {
				if isRun(c, from, slot) {
					k := run(t, c, link, slot)
					for place := range l.Dests {
						got += isGot(t, c, k, link, place, slot)
					}
				}
			}
		}
	}
	if got < 500 {
		t.Errorf("only %d were got", got)
	}
}

// message is what is sent.
func message(c api.Config, link int) []byte {
	return bytes.Repeat([]byte{byte(link + 1)}, c.Ports[c.Links[link].Source].Size)
}

// run is a cluster in which a link's source's partition has sent in one slot, and all
// have asked for it in all their windows.
func run(t *testing.T, c api.Config, link, slot int) *cluster.Cluster {
	t.Helper()
	var programs [][]api.Op
	for part := range c.Parts {
		programs = append(programs, program(c, part, link, slot))
	}
	k, err := cluster.New(c, programs, true)
	if err != api.OK {
		t.Fatalf("%v of %+v", err, c)
	}
	if _, err := k.Run(make([]api.Choice, rounds*c.Nodes)); err != api.OK {
		t.Fatal(err)
	}
	return k
}

// program is a partition's: in each window it asks for what comes by the link, and yields.
func program(c api.Config, part, link, slot int) []api.Op {
	var l []api.Op
	source := c.Links[link].Source
	for at := range rounds * c.Nodes {
		if !isRun(c, part, at) {
			continue
		}
		if at == slot && c.Ports[source].Part == part {
			l = append(l, api.Op{Kind: api.OpSend, Port: source, Data: message(c, link)})
		}
		for _, port := range asked(c, part, link) {
			l = append(l, api.Op{Kind: api.OpRecv, Port: port})
		}
		l = append(l, api.Op{Kind: api.OpYield})
	}
	return l
}

// asked are the Dests of a link that a partition has.
func asked(c api.Config, part, link int) []int {
	var l []int
	for _, port := range c.Links[link].Dests {
		if c.Ports[port].Part == part {
			l = append(l, port)
		}
	}
	return l
}

// isGot answers 1, if the Dest's partition ever runs, else 0.
func isGot(t *testing.T, c api.Config, k *cluster.Cluster, link, place, slot int) int {
	t.Helper()
	delay, err := timing.Delay(c, link, place, slot)
	port := c.Links[link].Dests[place]
	part := c.Ports[port].Part
	first := -1
	for _, r := range answers(c, k, part, link, port) {
		if r.Err != api.OK {
			continue
		}
		if !bytes.Equal(r.Data, message(c, link)) {
			t.Fatalf("%+v is not what was sent by link %d of %+v", r, link, c)
		}
		first = r.Slot
		break
	}
	if err == api.ErrTiming && first == -1 {
		return 0
	}
	if err != api.OK || first != slot+delay {
		t.Fatalf("sent in slot %d by link %d of %+v: received at place %d in slot %d; the delay is %d, %v", slot, link, c, place, first, delay, err)
	}
	return 1
}

// answers are what a partition was told each time when it asked a port.
func answers(c api.Config, k *cluster.Cluster, part, link, port int) []api.Result {
	ops := slices.Clone(k.Trace(part))
	mine := asked(c, part, link)
	nth := slices.Index(mine, port)
	var l []api.Result
	for i := 0; i < len(ops); {
		// Its window's results end with that of the yield.
		end := i
		for end < len(ops) && ops[end].Slot == ops[i].Slot {
			end++
		}
		l = append(l, ops[end-1-len(mine)+nth])
		i = end
	}
	return l
}
