package member_test

import (
	"math/rand"
	"testing"

	"rota/api"
	"rota/frame"
)

// model is a member as the chapter words it, with its vector node by node.
type model struct {
	c       api.Config
	node    int
	state   int
	counter int // -1: none
	vector  map[int]bool
	seen    seen // the counts
}

func (m *model) bits() uint16 {
	var n uint16
	for node := range m.vector {
		n |= 1 << node
	}
	return n
}

func (m *model) look() seen {
	s := m.seen
	s.state, s.slot, s.vector = m.state, m.counter, m.bits()
	return s
}

func (m *model) stopFollowing() {
	m.counter, m.vector = -1, map[int]bool{}
	m.seen.calm, m.seen.quiet = 0, 0
}

func (m *model) freeze() {
	m.state, m.counter, m.vector = api.Frozen, -1, map[int]bool{}
	m.seen.accepts, m.seen.fails = 0, 0
}

func (m *model) activeAnew() {
	m.state, m.vector[m.node] = api.Active, true
	m.seen.accepts, m.seen.fails = 1, 0
}

func (m *model) start() {
	m.state, m.counter, m.vector, m.seen = api.Listen, -1, map[int]bool{}, seen{}
}

func (m *model) join(slot int) {
	m.counter, m.vector = slot, nodes(all(m.c))
	m.activeAnew()
	m.seen.accepts, m.seen.calm, m.seen.quiet = m.c.Nodes, 0, 0
}

func nodes(members uint16) map[int]bool {
	l := map[int]bool{}
	for node := range 16 {
		if members>>node&1 == 1 {
			l[node] = true
		}
	}
	return l
}

func (m *model) whoseTurn() int { return m.c.Owners[m.counter%m.c.Nodes] }

func (m *model) turn() (api.State, bool) {
	own := m.counter >= 0 && m.whoseTurn() == m.node
	if m.state == api.Active {
		if !own || m.seen.accepts <= m.seen.fails {
			m.freeze()
			return api.State{}, false
		}
		m.seen.accepts, m.seen.fails = 1, 0
		return api.State{Slot: m.counter, Members: m.bits()}, true
	}
	if m.state != api.Listen {
		return api.State{}, false
	}
	if m.counter < 0 {
		if m.seen.quiet >= 2*m.c.Nodes {
			m.counter = turnOf(m.c, m.node, 0)
			m.vector = map[int]bool{}
			m.activeAnew()
			return api.State{Slot: m.counter, Members: m.bits()}, true
		}
		m.seen.quiet++
		return api.State{}, false
	}
	if !own {
		m.stopFollowing()
		return api.State{}, false
	}
	if m.seen.calm >= (m.c.Rejoin+1)*m.c.Nodes {
		m.activeAnew()
		return api.State{Slot: m.counter, Members: m.bits()}, true
	}
	if m.vector[m.node] {
		delete(m.vector, m.node)
		m.seen.calm = 0
	} else {
		m.seen.calm++
	}
	return api.State{}, false
}

func (m *model) hear(b []byte, silence bool) (api.Frame, bool) {
	none := api.Frame{}
	switch {
	case m.state == api.Off || m.state == api.Frozen:
		return none, false
	case m.counter < 0:
		return m.hearListening(b, silence)
	case m.whoseTurn() == m.node && m.state == api.Active:
		m.freeze()
		return none, false
	case m.whoseTurn() == m.node:
		m.stopFollowing()
		return none, false
	}
	owner := m.whoseTurn()
	f, err := frame.Accept(b, owner, api.State{Slot: m.counter, Members: m.bits() | 1<<owner})
	had := m.vector[owner]
	switch {
	case !silence && err == api.OK:
		m.vector[owner] = true
		if m.state == api.Active {
			m.seen.accepts++
		} else {
			m.seen.calm++
		}
		return f, true
	case m.state == api.Active:
		if !silence || had {
			m.seen.fails++
		}
		delete(m.vector, owner)
	case !silence:
		m.stopFollowing()
	case had:
		delete(m.vector, owner)
		m.seen.calm = 0
	default:
		m.seen.calm++
	}
	return none, false
}

func (m *model) hearListening(b []byte, silence bool) (api.Frame, bool) {
	if silence {
		m.seen.quiet++
		return api.Frame{}, false
	}
	m.seen.quiet = 0
	f, err := frame.Decode(b)
	if err != api.OK || f.Owner == m.node || f.Owner != m.c.Owners[f.State.Slot%m.c.Nodes] {
		return api.Frame{}, false
	}
	told := nodes(f.State.Members)
	if !told[f.Owner] {
		return api.Frame{}, false
	}
	for node := range told {
		if node >= m.c.Nodes {
			return api.Frame{}, false
		}
	}
	m.counter, m.vector, m.seen.calm = f.State.Slot, told, 1
	return f, true
}

func (m *model) next() {
	switch {
	case m.counter < 0:
	case m.counter < last:
		m.counter++
	case m.state == api.Active:
		m.freeze()
	default:
		m.stopFollowing()
	}
}

// anyFrame is one that the model's member mostly accepts, or one that is a
// little otherwise.
func anyFrame(r *rand.Rand, m *model) api.Frame {
	slot := m.counter
	if slot < 0 {
		slot = []int{r.Intn(100), last - r.Intn(40)}[r.Intn(20)/19]
	}
	f := says(m.c, slot, m.bits()|1<<ownerOf(m.c, slot))
	if m.counter < 0 {
		f.State.Members |= uint16(r.Intn(1 << m.c.Nodes))
	}
	switch r.Intn(60) {
	case 0:
		f.State.Slot = (f.State.Slot + r.Intn(3)) % last
	case 1:
		f.State.Members ^= 1 << r.Intn(16)
	case 2:
		f.Owner = r.Intn(16)
	}
	return f
}

// P9.1 to P9.3: runs by chance answer what the chapter's words do, and look
// the same behind each step.
func TestRuns(t *testing.T) {
	r := rand.New(rand.NewSource(9))
	reached := map[string]int{}
	for _, c := range several() {
		for range 150 {
			node := r.Intn(c.Nodes)
			m, x := mustNew(t, c, node), &model{c: c, node: node, counter: -1, vector: map[int]bool{}}
			silences, misses := r.Intn(4), 1+r.Intn(200)
			for range 400 {
				was := x.look()
				switch n := r.Intn(300); {
				case n == 0 || was.state == api.Off:
					starts(t, m)
					x.start()
				case n == 1:
					slot := []int{r.Intn(100), last - r.Intn(99)}[r.Intn(2)]
					joins(t, m, slot)
					x.join(slot)
				case was.state == api.Frozen && n < 30:
					starts(t, m)
					x.start()
				}
				isTurn := x.counter >= 0 && x.whoseTurn() == node || x.counter < 0 && r.Intn(c.Nodes) == 0
				if r.Intn(misses) == 0 {
					isTurn = !isTurn
				}
				if isTurn {
					want, wantOK := x.turn()
					if s, ok := m.Turn(); s != want || ok != wantOK {
						t.Fatalf("turn: %v, %v, not %v, %v", s, ok, want, wantOK)
					}
				} else {
					b, silence := sent(t, anyFrame(r, x)), r.Intn(4) < silences
					if r.Intn(60) == 0 {
						b = frame.Corrupt(b, r.Intn(600), r.Uint32())
					}
					want, wantOK := x.hear(b, silence)
					if f, ok := m.Hear(b, silence); f != want || ok != wantOK {
						t.Fatalf("hear: %v, %v, not %v, %v", f, ok, want, wantOK)
					}
				}
				if r.Intn(misses) != 0 {
					ends(t, m)
					x.next()
				}
				now := x.look()
				if s := look(m); s != now {
					t.Fatalf("%+v, not %+v", s, now)
				}
				reached[turned(was, now)]++
			}
		}
	}
	for _, way := range []string{"it came back", "it began", "it froze", "it followed", "it stopped following"} {
		if reached[way] < 20 {
			t.Errorf("%s %d times", way, reached[way])
		}
	}
}

// turned is what became of a member in a slot.
func turned(was, now seen) string {
	switch {
	case was.state == api.Listen && now.state == api.Active && now.quiet == 0 && now.calm > 0:
		return "it came back"
	case was.state == api.Listen && now.state == api.Active && now.quiet > 0:
		return "it began"
	case was.state == api.Active && now.state == api.Frozen:
		return "it froze"
	case was.state == api.Listen && was.slot < 0 && now.slot >= 0:
		return "it followed"
	case was.state == api.Listen && was.slot >= 0 && now.slot < 0:
		return "it stopped following"
	}
	return ""
}
