package cluster_test

import (
	"bytes"
	"math/rand"
	"slices"
	"testing"

	"rota/api"
	"rota/cluster"
	"rota/config"
	"rota/frame"
)

// anyChoice is one by chance, without any bound to what fails; the more calm,
// the less does. What is forged is, mostly, what some node takes for true.
func anyChoice(r *rand.Rand, c api.Config, k *cluster.Cluster, calm int) api.Choice {
	x := api.Choice{
		Drift:   anyNumbers(r, c.Nodes, 2*c.Drift+1),
		Misread: anyNumbers(r, c.Nodes, 2*c.Reading+1),
		Offsets: anyNumbers(r, c.Nodes, oneOf(r, 0, 3, 2*far)),
	}
	for id := range api.MaxNodes {
		if k.State(id) == api.Frozen && r.Intn(3*c.Nodes) == 0 || r.Intn(50*c.Nodes*calm) == 0 {
			x.Restart |= 1 << id
		}
	}
	if r.Intn(c.Nodes*calm) == 0 {
		for range r.Intn(c.Nodes + 2) {
			x.Copies = append(x.Copies, oneOf(r, api.Copy{}, api.Copy{Kind: 7}, api.Copy{Kind: api.CopyLost},
				api.Copy{Kind: api.CopyBurst, At: r.Intn(700) - 50, Mask: r.Uint32() & r.Uint32()}))
		}
	}
	for r.Intn(3*calm) == 0 {
		x.Babble = append(x.Babble, api.Send{Node: r.Intn(20) - 2, Bytes: anyFrame(r, c, k)})
	}
	if r.Intn(10*calm) == 0 {
		x.Forged = anyFrame(r, c, k)
	}
	return x
}

// anyCalm is more or less of it.
func anyCalm(r *rand.Rand) int { return oneOf(r, 1, 5, 50) }

// anyFrame is what some node would take, but for some chance; its payload says
// something of each link.
func anyFrame(r *rand.Rand, c api.Config, k *cluster.Cluster) []byte {
	id := r.Intn(c.Nodes)
	f := api.Frame{State: api.State{Slot: max(0, k.Counter(id)), Members: k.Vector(id)}}
	f.Owner = ownerOf(c, f.State.Slot)
	f.State.Members |= 1 << f.Owner
	for i := range f.Payload {
		f.Payload[i] = oneOf[byte](r, 0, 1, 1, 1, 2)
	}
	if r.Intn(8) == 0 {
		f.State.Slot++
	}
	b, _ := frame.Encode(f)
	return b[:len(b)-r.Intn(20)/19]
}

// sender notes what partitions sent by each port, since their nodes were
// started.
type sender struct {
	c       api.Config
	streams [][]api.Op
	done    []int
	sent    map[int][][]byte
}

// look finds what was sent in the slot that a choice was of.
func (s *sender) look(k *cluster.Cluster, x api.Choice) {
	for port, p := range s.c.Ports {
		if x.Restart>>s.c.Parts[p.Part].Node&1 == 1 {
			delete(s.sent, port)
		}
	}
	for part := range s.c.Parts {
		trace := k.Trace(part)
		for i := s.done[part]; i < len(trace); i++ {
			if op := s.streams[part][i]; op.Kind == api.OpSend && trace[i].Err == api.OK {
				s.sent[op.Port] = append(s.sent[op.Port], op.Data)
			}
		}
		s.done[part] = len(trace)
	}
}

// P0.2: what arrives comes by a link to that port, is as long as that port's
// messages, and comes in its sender's turn, by the receiver's counter; and was
// sent, unless somebody forged, or turned the receiver's copy.
func TestWhatArrivesWasSent(t *testing.T) {
	r := rand.New(rand.NewSource(2))
	came, sure := 0, 0
	for range 100 {
		c := anyConfig(r)
		slots := 20 * c.Nodes
		s := &sender{c: c, streams: anyStreams(r, c, slots), done: make([]int, len(c.Parts)), sent: map[int][][]byte{}}
		k := mustNew(t, c, r.Intn(4) != 0, s.streams...)
		known, calm := 0, anyCalm(r)
		for range slots {
			x := anyChoice(r, c, k, calm)
			steps(t, k, x)
			s.look(k, x)
			all := k.Deliveries()
			for _, d := range all[known:] {
				came++
				if s.isSure(x, d) {
					sure++
				}
				s.arrives(t, k, x, d)
			}
			known = len(all)
		}
	}
	if came < 3000 || sure < 2500 {
		t.Errorf("%d deliveries, of which %d are sure", came, sure)
	}
}

func (s *sender) isSure(x api.Choice, d api.Delivery) bool {
	owner := ownerOf(s.c, d.Slot)
	isForged := x.Forged != nil || slices.ContainsFunc(x.Babble, func(b api.Send) bool { return b.Node == owner })
	isTurned := d.Node < len(x.Copies) && x.Copies[d.Node].Kind == api.CopyBurst
	return !isForged && !isTurned
}

// arrives tells of a delivery that ought not to be.
func (s *sender) arrives(t *testing.T, k *cluster.Cluster, x api.Choice, d api.Delivery) {
	t.Helper()
	port := s.c.Ports[d.Port]
	l := s.c.Links[d.Link]
	from := s.c.Parts[s.c.Ports[l.Source].Part].Node
	turn := k.Counter(d.Node) - 1
	switch {
	case d.Slot != k.Slot()-1 || s.c.Parts[port.Part].Node != d.Node || !slices.Contains(l.Dests, d.Port):
		t.Fatalf("slot %d: no such link: %+v", k.Slot()-1, d)
	case len(d.Data) != port.Size:
		t.Fatalf("%+v, of size %d", d, port.Size)
	case config.Owner(s.c, turn) != from:
		t.Fatalf("%+v: from %d, in %d by its counter", d, from, turn)
	case !s.isSure(x, d):
	case ownerOf(s.c, d.Slot) != from:
		t.Fatalf("%+v: from %d, not in its slot", d, from)
	case !slices.ContainsFunc(s.sent[l.Source], func(b []byte) bool { return bytes.Equal(b, d.Data) }):
		t.Fatalf("%+v: %v were sent", d, s.sent[l.Source])
	}
}

// P0.4: what a partition's operations come to, and what nodes think, does not
// hang on what partitions do that it cannot learn of.
func TestApart(t *testing.T) {
	r := rand.New(rand.NewSource(4))
	runs := 0
	for range 60 {
		c := anyConfig(r)
		streams := anyStreams(r, c, 20*c.Nodes)
		for _, part := range r.Perm(len(c.Parts)) {
			turned := turnedFor(r, c, streams, part)
			if turned == nil || r.Intn(2) == 0 {
				continue
			}
			hot, calm := r.Intn(4) != 0, anyCalm(r)
			k, l := mustNew(t, c, hot, streams...), mustNew(t, c, hot, turned...)
			for range 20 * c.Nodes {
				x := anyChoice(r, c, k, calm)
				steps(t, k, x)
				steps(t, l, x)
				for id := range c.Nodes {
					is(t, l, id, look(k, id))
				}
			}
			traces(t, l, part, k.Trace(part)...)
			if k.Faults(part) != l.Faults(part) || k.Blocked() != l.Blocked() {
				t.Errorf("%d and %d faults, %d and %d blocked", k.Faults(part), l.Faults(part), k.Blocked(), l.Blocked())
			}
			runs++
		}
	}
	if runs < 150 {
		t.Errorf("%d runs", runs)
	}
}

// turnedFor are streams, of which all those are others that a partition cannot
// learn of; nil, if there are none.
func turnedFor(r *rand.Rand, c api.Config, streams [][]api.Op, part int) [][]api.Op {
	var turned [][]api.Op
	for q, reached := range config.Reach(c) {
		if reached[part] {
			continue
		}
		if turned == nil {
			turned = slices.Clone(streams)
		}
		turned[q] = anyStream(r, c, q, 20*c.Nodes)
	}
	return turned
}
