package node_test

import (
	"math/rand"
	"reflect"
	"slices"
	"testing"

	"rota/api"
	"rota/clock"
	"rota/frame"
	"rota/kern"
	"rota/member"
	"rota/node"
)

// model is a node, as the chapter words it: what links take and bring is gone
// through link by link, and places are counted by hand.
type model struct {
	c  api.Config
	id int
	k  *kern.Kernel
	m  *member.Member
	t  *clock.Clock
}

func newModel(c api.Config, id int) *model {
	x := &model{c: c, id: id}
	x.k, _ = kern.New(c, id)
	x.m, _ = member.New(c, id)
	x.t, _ = clock.New(c)
	return x
}

// answer is what a call answers.
type answer struct {
	err     api.Errno
	n       int
	ok      bool
	bytes   []byte
	results []api.Result
	came    []api.Delivery
}

// step is a call.
type step struct {
	do            string
	x, y          int
	ops           []api.Op
	bytes         []byte
	silence       bool
	slot, reading int
}

func (s step) onNode(n *node.Node) answer {
	var a answer
	switch s.do {
	case "start":
		a.err = n.Start(s.x)
	case "join":
		a.err = n.Join(s.x)
	case "window":
		a.results, a.n = n.Window(s.x, s.slot, s.ops)
	case "send":
		a.bytes, a.came, a.ok = n.Send(s.slot)
	case "drift":
		a.err = n.Drift(s.x)
	case "reading":
		a.n = n.Reading(s.x, s.y)
	case "hear":
		a.came = n.Hear(s.slot, s.bytes, s.silence, s.reading)
	case "end":
		a.n, a.err = n.End(s.slot)
	}
	return a
}

func (s step) onModel(m *model) answer {
	var a answer
	isOff := m.m.State() == 0
	switch s.do {
	case "start":
		if s.x > far || s.x < -far {
			a.err = 2
			return a
		}
		m.k.Restart()
		m.m.Start()
		m.t.Round(0, -1)
		m.t.Set(s.x)
	case "join":
		a.err = m.m.Join(s.x)
	case "window":
		if !isOff {
			a.results, a.n = m.k.Run(s.x, s.slot, s.ops)
		}
	case "send":
		if !isOff && s.slot >= 0 {
			a = m.send(s.slot)
		}
	case "drift":
		a.err = m.t.Drift(s.x)
	case "reading":
		a.n = m.t.Read(s.x, s.y)
	case "hear":
		if !isOff && s.slot >= 0 {
			a.came = m.hear(s)
		}
	case "end":
		a.n, a.err = m.end(s.slot)
	}
	return a
}

func (m *model) nodeOf(port int) int { return m.c.Parts[m.c.Ports[port].Part].Node }

func (m *model) send(slot int) answer {
	var p payload
	for _, l := range m.c.Links {
		if m.nodeOf(l.Source) != m.id {
			continue
		}
		if data, ok := m.k.Take(l.Source); ok {
			p[l.Offset] = 1
			copy(p[l.Offset+1:], data)
		}
	}
	state, ok := m.m.Turn()
	if !ok {
		return answer{}
	}
	b, _ := frame.Encode(api.Frame{Owner: m.id, State: state, Payload: p})
	return answer{ok: true, bytes: b, came: m.bring(m.id, slot, p)}
}

func (m *model) bring(owner, slot int, p payload) []api.Delivery {
	var came []api.Delivery
	for number, l := range m.c.Links {
		if m.nodeOf(l.Source) != owner || p[l.Offset] != 1 {
			continue
		}
		for _, port := range l.Dests {
			if m.nodeOf(port) == m.id {
				data := append([]byte{}, p[l.Offset+1:l.Offset+1+m.c.Ports[port].Size]...)
				m.k.Arrive(port, data, slot)
				came = append(came, api.Delivery{Slot: slot, Node: m.id, Port: port, Link: number, Data: data})
			}
		}
	}
	return came
}

func (m *model) hear(s step) []api.Delivery {
	state, counter := m.m.State(), m.m.Slot()
	silence := s.silence || counter >= 0 && (s.reading < -m.c.Margin || s.reading > m.c.Margin)
	f, ok := m.m.Hear(s.bytes, silence)
	if !ok {
		return nil
	}
	if counter >= 0 {
		m.t.Hear(f.Owner, s.reading)
	} else {
		m.t.Set(m.t.Offset() + s.reading)
		m.t.Hear(f.Owner, 0)
	}
	if state != 2 {
		return nil
	}
	return m.bring(f.Owner, s.slot, f.Payload)
}

func (m *model) end(slot int) (int, api.Errno) {
	if slot < 0 {
		return 0, 2
	}
	by := 0
	if (slot+1)%m.c.Nodes == 0 {
		own := -1
		if m.m.State() == 2 {
			own = m.id
		}
		by, _ = m.t.Round(m.m.Vector(), own)
	}
	m.m.Next()
	return by, 0
}

func (m *model) look() seen { return seen{m.m.State(), m.m.Vector(), m.m.Slot(), m.t.Offset()} }

// oneOf is one of some, by chance.
func oneOf[T any](r *rand.Rand, l ...T) T { return l[r.Intn(len(l))] }

// anyStep is a call by chance; what is heard agrees, mostly.
func anyStep(r *rand.Rand, m *model) step {
	s := step{do: oneOf(r, "window", "window", "send", "send", "drift", "reading", "hear", "hear", "hear", "hear", "hear", "hear", "end", "end", "end", "end", "end")}
	if r.Intn(60) == 0 || m.m.State() == api.Frozen && r.Intn(20) == 0 {
		s.do = oneOf(r, "start", "join")
	}
	s.slot = r.Intn(40)
	if r.Intn(30) == 0 {
		s.slot = oneOf(r, append(below, 1<<40)...)
	}
	s.x, s.y, s.reading = r.Intn(21)-10, r.Intn(21)-10, r.Intn(181)-90
	switch s.do {
	case "start":
		s.x = oneOf(r, 0, 5, -1000, far, -far, far+1, -far-1)
	case "join":
		s.x = oneOf(r, 0, 7, r.Intn(99), last, last-r.Intn(20), -1, last+1)
	case "window":
		s.x, s.ops = anyOps(r, m)
	case "send":
		if counter := m.m.Slot(); counter >= 0 && ownerOf(m.c, counter) != m.id && r.Intn(9) != 0 {
			s.do = "end"
		}
	case "hear":
		s.bytes, s.silence = anyHeard(r, m), r.Intn(8) == 0
		if r.Intn(20) == 0 {
			s.reading = oneOf(r, append(wild, 91, -91)...)
		}
		if counter := m.m.Slot(); counter >= 0 && ownerOf(m.c, counter) == m.id && r.Intn(9) != 0 {
			s.do = "send"
		}
	}
	return s
}

// anyOps are a partition, mostly one with the port that its operations name
// most, and operations.
func anyOps(r *rand.Rand, m *model) (int, []api.Op) {
	part, port := r.Intn(6)-1, r.Intn(14)-1
	if len(m.c.Ports) > 0 && r.Intn(9) != 0 {
		port = r.Intn(len(m.c.Ports))
		part = m.c.Ports[port].Part
	}
	var ops []api.Op
	for range r.Intn(6) {
		op := api.Op{Kind: 1 + r.Intn(4), Addr: r.Intn(8), Byte: byte(r.Intn(256)), Port: port}
		if r.Intn(40) == 0 {
			op = api.Op{Kind: oneOf(r, 1, 5, 6, 7), Addr: 8, Port: r.Intn(14)}
		}
		op.Data = make([]byte, 1)
		if op.Port >= 0 && op.Port < len(m.c.Ports) {
			op.Data = make([]byte, m.c.Ports[op.Port].Size)
		}
		r.Read(op.Data)
		ops = append(ops, op)
	}
	return part, ops
}

// anyHeard is what the owner sends, as the member believes, or as one that has
// no counter can believe; but for some chance.
func anyHeard(r *rand.Rand, m *model) []byte {
	s := api.State{Slot: m.m.Slot(), Members: m.m.Vector()}
	if s.Slot < 0 {
		s = api.State{Slot: r.Intn(50), Members: uint16(r.Intn(1 << m.c.Nodes))}
	}
	f := api.Frame{Owner: ownerOf(m.c, s.Slot), State: s}
	f.State.Members |= 1 << f.Owner
	for i := range f.Payload {
		f.Payload[i] = oneOf[byte](r, 0, 1, 1, 2)
	}
	switch r.Intn(40) {
	case 0:
		f.Owner = r.Intn(16)
	case 1:
		f.State.Members ^= 1 << r.Intn(16)
	case 2:
		f.State.Slot = r.Intn(50)
	}
	b, _ := frame.Encode(f)
	if r.Intn(40) == 0 {
		b = frame.Corrupt(b, r.Intn(600), r.Uint32())
	}
	return b
}

func isAlike(a, b answer) bool {
	if a.err != b.err || a.n != b.n || a.ok != b.ok || string(a.bytes) != string(b.bytes) {
		return false
	}
	if len(a.results) != len(b.results) || len(a.came) != len(b.came) {
		return false
	}
	return (len(a.results) == 0 || reflect.DeepEqual(a.results, b.results)) && (len(a.came) == 0 || reflect.DeepEqual(a.came, b.came))
}

// P10.1 to P10.7: calls by chance answer what the chapter's words do, and what
// can be seen behind each is so, too.
func TestSteps(t *testing.T) {
	r := rand.New(rand.NewSource(10))
	others, own, states := 0, 0, [4]int{}
	for range 400 {
		c := oneOf(r, some(), some(), some(), some(), both(), both(), both(), widest())
		id := r.Intn(min(3, c.Nodes))
		n, m := mustNew(t, c, id), newModel(c, id)
		for i := range 400 {
			s := anyStep(r, m)
			if i == 0 && r.Intn(4) != 0 {
				s = step{do: oneOf(r, "join", "start"), x: r.Intn(9)}
			}
			x, y := s.onNode(n), s.onModel(m)
			if !isAlike(x, y) || look(n) != m.look() {
				t.Fatalf("node %d, step %d: %+v: %+v, %+v, not %+v, %+v", id, i, s, x, look(n), y, m.look())
			}
			for part := range c.Parts {
				if n.Faults(part) != m.k.Faults(part) {
					t.Fatalf("node %d, step %d: partition %d: %d faults", id, i, part, n.Faults(part))
				}
			}
			for port := range c.Ports {
				waits(t, n, port, m.k.Waiting(port))
			}
			if s.do == "send" {
				own += len(x.came)
			} else {
				others += len(x.came)
			}
			states[n.State()]++
		}
	}
	if slices.Min(states[:]) < 5000 || others < 1000 || own < 100 {
		t.Errorf("steps in the states: %v; %d and %d deliveries", states, others, own)
	}
}
