package member

import "rota/api"

// standing is what a member's conduct hangs on. Who is Active always has a
// counter; who listens, and has one, follows.
type standing struct {
	state      int
	hasCounter bool
}

// conduct is what a member does: when its own turn comes (it tells whether it
// sends), when it hears something, and when its counter can't be right.
type conduct struct {
	turn  func(m *Member) bool
	hear  func(m *Member, v verdict, told api.State)
	leave func(m *Member)
}

// conducts tells them. Who is Off or Frozen does nothing.
func conducts() map[standing]conduct {
	return map[standing]conduct{
		{api.Active, true}:  {(*Member).turnActive, (*Member).hearActive, (*Member).freeze},
		{api.Listen, true}:  {(*Member).turnFollowing, (*Member).hearFollowing, (*Member).listen},
		{api.Listen, false}: {(*Member).turnListening, (*Member).hearListening, (*Member).listen},
	}
}

// conduct is what it does now; false, if it does nothing.
func (m *Member) conduct() (conduct, bool) {
	if !m.isMade() {
		return conduct{}, false
	}
	does, ok := conducts()[standing{m.mind.state, m.hasCounter()}]
	return does, ok
}

func (m *Member) turnActive() bool {
	if !m.isOwnTurn() || m.mind.accepts <= m.mind.fails {
		m.freeze()
		return false
	}
	m.mind.accepts, m.mind.fails = 1, 0
	return true
}

func (m *Member) turnFollowing() bool {
	switch {
	case !m.isOwnTurn():
		m.listen()
	case m.mind.calm >= (m.tables.Rejoin+1)*m.tables.Nodes:
		m.activate()
		return true
	default:
		m.miss(m.node)
	}
	return false
}

func (m *Member) turnListening() bool {
	if m.mind.quiet < 2*m.tables.Nodes {
		m.mind.quiet++
		return false
	}
	m.mind.believed = m.firstTurn()
	m.activate()
	return true
}

func (m *Member) hearActive(v verdict, _ api.State) {
	owner := m.owner()
	switch v {
	case astray:
		m.freeze()
	case accepted:
		m.put(owner)
		m.mind.accepts++
	case refused, silent:
		if v == refused || m.has(owner) {
			m.mind.fails++
		}
		m.drop(owner)
	}
}

func (m *Member) hearFollowing(v verdict, _ api.State) {
	switch v {
	case astray, refused:
		m.listen()
	case accepted:
		m.put(m.owner())
		m.mind.calm++
	case silent:
		m.miss(m.owner())
	}
}

func (m *Member) hearListening(v verdict, told api.State) {
	switch v {
	case silent:
		m.mind.quiet++
	case refused:
		m.mind.quiet = 0
	case accepted:
		m.mind.quiet = 0
		m.mind.believed, m.mind.calm = told, 1
	}
}

// listen is how to start, and how to stop following: who listens has counted
// neither accepts nor fails.
func (m *Member) listen() {
	m.mind = mind{state: api.Listen, believed: api.State{Slot: noSlot}}
}

func (m *Member) freeze() {
	m.mind = mind{state: api.Frozen, believed: api.State{Slot: noSlot}, calm: m.mind.calm, quiet: m.mind.quiet}
}

// activate lets it be active anew.
func (m *Member) activate() {
	m.mind.state = api.Active
	m.put(m.node)
	m.mind.accepts, m.mind.fails = 1, 0
}

// miss is of a node of which, while this one follows, nothing came: it is as
// it ought to be, if that one does not belong.
func (m *Member) miss(node int) {
	if !m.has(node) {
		m.mind.calm++
		return
	}
	m.drop(node)
	m.mind.calm = 0
}
