package kern_test

import (
	"bytes"
	"math/rand"
	"testing"

	"rota/api"
	"rota/kern"
	"rota/port"
)

// model is a kernel, as the chapter words it: one memory, and what it has of
// partitions and ports in lists.
type model struct {
	c       api.Config
	node    int
	memory  [256]byte
	boxes   []*port.Box
	faults  []int
	stopped []bool
}

func newModel(c api.Config, node int) *model {
	m := &model{c: c, node: node, faults: make([]int, len(c.Parts)), stopped: make([]bool, len(c.Parts))}
	for _, p := range c.Ports {
		b, _ := port.New(p)
		m.boxes = append(m.boxes, b)
	}
	return m
}

func (m *model) on(s step) seen {
	var x seen
	isHere := m.c.Parts[s.part].Node == m.node
	switch {
	case s.do == "restart":
		*m = *newModel(m.c, m.node)
	case s.do == "arrive" && !isHere:
		x.err = api.ErrPort
	case !isHere || s.do == "run" && s.slot < 0:
	case s.do == "run":
		for len(x.results) < min(len(s.ops), m.c.Quota) {
			op := s.ops[len(x.results)]
			x.results = append(x.results, m.run(s.part, s.slot, op))
			if op.Kind == 6 {
				break
			}
		}
		x.done = len(x.results)
	case s.do == "take":
		x.data, x.ok = m.boxes[s.port].Take()
	case s.do == "arrive":
		x.err = m.boxes[s.port].Arrive(s.data, s.slot)
	}
	if isHere {
		p := m.c.Parts[s.part]
		x.faults, x.stopped, x.memory = m.faults[s.part], m.stopped[s.part], m.memory[p.From:p.To]
	}
	return x
}

func (m *model) run(part, slot int, op api.Op) api.Result {
	x := api.Result{Slot: slot}
	p := m.c.Parts[part]
	isMine := op.Port >= 0 && op.Port < len(m.c.Ports) && m.c.Ports[op.Port].Part == part
	switch {
	case m.stopped[part]:
		x.Err = 51
		return x
	case op.Kind < 1 || op.Kind > 6:
		x.Err = 52
	case op.Kind == 5:
		x.Err = 53
	case op.Kind <= 2 && (op.Addr < 0 || op.Addr > p.To-p.From-1):
		x.Err = 50
	case (op.Kind == 3 || op.Kind == 4) && !isMine:
		x.Err = 40
	case op.Kind == 1:
		x.Data = []byte{m.memory[p.From+op.Addr]}
	case op.Kind == 2:
		m.memory[p.From+op.Addr] = op.Byte
	case op.Kind == 3:
		x.Err = m.boxes[op.Port].Send(op.Data)
	case op.Kind == 4:
		x.Data, x.Err = m.boxes[op.Port].Recv(slot)
	}
	if x.Err == 50 || x.Err == 53 {
		m.faults[part]++
		m.stopped[part] = m.faults[part] == 3
	}
	return x
}

// isLike says whether two things that were seen are the same, where lists that
// are nil and empty ones are.
func (x seen) isLike(y seen) bool {
	if len(x.results) != len(y.results) || x.done != y.done || x.ok != y.ok || x.err != y.err || x.faults != y.faults || x.stopped != y.stopped {
		return false
	}
	for i, r := range x.results {
		if r.Slot != y.results[i].Slot || r.Err != y.results[i].Err || !bytes.Equal(r.Data, y.results[i].Data) {
			return false
		}
	}
	return bytes.Equal(x.data, y.data) && bytes.Equal(x.memory, y.memory)
}

// P5.1 to P5.4: runs by chance answer what the chapter's words do, and what
// can be seen of all partitions and ports behind each step is so, too.
func TestSteps(t *testing.T) {
	r := rand.New(rand.NewSource(55))
	for range 200 {
		c := some()
		c.Quota = 1 + r.Intn(api.MaxQuota)
		node := r.Intn(c.Nodes)
		k, m := mustNew(t, c, node), newModel(c, node)
		for i, s := range anySteps(r, c, 100) {
			x, y := s.on(k), m.on(s)
			if !x.isLike(y) {
				t.Fatalf("node %d, step %d: %v: %v, not %v", node, i, s, x, y)
			}
			allAlike(t, k, m)
		}
	}
}

// allAlike tells of a partition or a port that is not as in the model.
func allAlike(t *testing.T, k *kern.Kernel, m *model) {
	t.Helper()
	for n, p := range m.c.Parts {
		if p.Node == m.node {
			isAt(t, k, n, m.faults[n], m.stopped[n])
			remembers(t, k, n, m.memory[p.From:p.To]...)
		} else {
			isAt(t, k, n, 0, false)
			remembers(t, k, n)
		}
	}
	for n := range m.c.Ports {
		if nodeOf(m.c, n) == m.node {
			waits(t, k, n, m.boxes[n].Len())
		} else {
			waits(t, k, n, 0)
		}
	}
}
