package member

import (
	"iter"
	"math/bits"

	"rota/api"
	"rota/config"
	"rota/frame"
)

// verdict is what a member finds of what it heard.
type verdict int

const (
	astray  verdict = iota // by the counter nobody else's turn was to come
	silent                 // there was nothing
	refused                // there were bytes, and they do not agree
	accepted
)

// judge tells the verdict, and the frame that is accepted.
func (m *Member) judge(b []byte, silence bool) (api.Frame, verdict) {
	switch {
	case m.hasCounter() && m.isOwnTurn():
		return api.Frame{}, astray
	case silence:
		return api.Frame{}, silent
	}
	takes := m.believe
	if m.hasCounter() {
		takes = m.agree
	}
	f, ok := takes(b)
	if !ok {
		return api.Frame{}, refused
	}
	return f, accepted
}

// agree is the frame, if it says what a member that has a counter believes
// itself. Whoever sends is a member by its own vector.
func (m *Member) agree(b []byte) (api.Frame, bool) {
	owner, s := m.owner(), m.mind.believed
	s.Members |= bit(owner)
	f, err := frame.Accept(b, owner, s)
	return f, err == api.OK
}

// believe is the frame, if a member that has no counter can take it at its
// word.
func (m *Member) believe(b []byte) (api.Frame, bool) {
	f, err := frame.Decode(b)
	if err != api.OK || f.Owner == m.node || f.Owner != config.Owner(m.tables, f.State.Slot) || !m.isMember(f.Owner, f.State.Members) {
		return api.Frame{}, false
	}
	return f, true
}

// isMember says whether a node is among members, and whether these are all
// nodes that there are.
func (m *Member) isMember(node int, members uint16) bool {
	found := false
	for n := range nodesOf(members) {
		if n >= m.tables.Nodes {
			return false
		}
		found = found || n == node
	}
	return found
}

// firstTurn is what who heard nobody begins with: its own slot of a round, and
// no members.
func (m *Member) firstTurn() api.State {
	return api.State{Slot: config.Turn(m.tables, m.node)}
}

// nodesOf tells whose bits these are, rising.
func nodesOf(members uint16) iter.Seq[int] {
	return func(yield func(int) bool) {
		for rest := members; rest != 0; rest &= rest - 1 {
			if !yield(bits.TrailingZeros16(rest)) {
				return
			}
		}
	}
}
