package member_test

import (
	"math"
	"testing"

	"rota/api"
	"rota/frame"
	"rota/member"
)

// last is the greatest number of a slot.
const last = math.MaxInt32

// wild are numbers that are no node's, and of which some are a small one with
// bits above.
var wild = []int{-1, -2, -16, math.MinInt, math.MinInt32, math.MaxInt, math.MaxInt32, 16, 17, 256, 257, 1 << 32, 1<<32 + 1, -1 << 32}

// owned is of a node for each owner, without partitions.
func owned(rejoin int, owners ...int) api.Config {
	c := api.Config{Nodes: len(owners), Owners: owners, Margin: 60, Bound: 60, Rejoin: rejoin, Quota: 1}
	for range owners {
		row := make([]int, len(owners))
		for i := range row {
			row[i] = -1
		}
		c.Windows = append(c.Windows, row)
	}
	return c
}

// chapters is the configuration of the chapter's examples.
func chapters() api.Config { return owned(1, 0, 1, 2, 3) }

// some is one whose owners are not in the order of their numbers.
func some() api.Config { return owned(3, 2, 0, 4, 1, 3) }

// widest has as many nodes as may be, and the greatest Rejoin.
func widest() api.Config { return owned(8, 15, 3, 0, 7, 1, 14, 2, 13, 4, 12, 5, 11, 6, 10, 8, 9) }

func several() []api.Config { return []api.Config{chapters(), some(), widest()} }

func ownerOf(c api.Config, slot int) int { return c.Owners[slot%c.Nodes] }

// turnOf is the first slot of a node, from one on.
func turnOf(c api.Config, node, from int) int {
	for ownerOf(c, from) != node {
		from++
	}
	return from
}

// all is the bits of all nodes.
func all(c api.Config) uint16 { return uint16(1<<c.Nodes - 1) }

// seen is what can be seen of a member.
type seen struct {
	state          int
	slot           int
	vector         uint16
	accepts, fails int
	calm, quiet    int
}

// What can be seen of members in each state.

func off() seen { return seen{state: api.Off, slot: -1} }

func listens(quiet int) seen { return seen{state: api.Listen, slot: -1, quiet: quiet} }

func follows(slot int, vector uint16, calm int) seen {
	return seen{state: api.Listen, slot: slot, vector: vector, calm: calm}
}

func active(slot int, vector uint16, accepts, fails int) seen {
	return seen{state: api.Active, slot: slot, vector: vector, accepts: accepts, fails: fails}
}

func frozen() seen { return seen{state: api.Frozen, slot: -1} }

// with is that, but for calm and quiet.
func (s seen) with(calm, quiet int) seen {
	s.calm, s.quiet = calm, quiet
	return s
}

func look(m *member.Member) seen {
	s := seen{state: m.State(), slot: m.Slot(), vector: m.Vector()}
	s.accepts, s.fails = m.Counts()
	s.calm, s.quiet = m.Calm()
	return s
}

// is tells of what can be seen of a member otherwise than it is wanted.
func is(t *testing.T, m *member.Member, want seen) {
	t.Helper()
	if s := look(m); s != want {
		t.Errorf("%+v, not %+v", s, want)
	}
}

// mustNew ends the test if there is no member.
func mustNew(t *testing.T, c api.Config, node int) *member.Member {
	t.Helper()
	m, err := member.New(c, node)
	if err != api.OK || m == nil {
		t.Fatalf("%v, %v", m, err)
	}
	return m
}

func joined(t *testing.T, c api.Config, node, slot int) *member.Member {
	t.Helper()
	m := mustNew(t, c, node)
	joins(t, m, slot)
	is(t, m, active(slot, all(c), c.Nodes, 0))
	return m
}

func started(t *testing.T, c api.Config, node int) *member.Member {
	t.Helper()
	m := mustNew(t, c, node)
	starts(t, m)
	is(t, m, listens(0))
	return m
}

// following is one that follows from a slot of another node on, with calm 1.
func following(t *testing.T, c api.Config, node, slot int, vector uint16) *member.Member {
	t.Helper()
	m := started(t, c, node)
	accepts(t, m, says(c, slot, vector))
	is(t, m, follows(slot, vector, 1))
	return m
}

// gone is one that is Frozen.
func gone(t *testing.T, c api.Config, node int) *member.Member {
	t.Helper()
	m := joined(t, c, node, turnOf(c, node, 0)+1)
	turnsNone(t, m)
	is(t, m, frozen())
	return m
}

// sent is a frame's bytes. Its payload is told from others'.
func sent(t *testing.T, f api.Frame) []byte {
	t.Helper()
	b, err := frame.Encode(f)
	if err != api.OK {
		t.Fatal(err)
	}
	return b
}

// says is the frame that a slot's owner sends, if these are its counter and
// its vector.
func says(c api.Config, slot int, members uint16) api.Frame {
	f := api.Frame{Owner: ownerOf(c, slot), State: api.State{Slot: slot, Members: members}}
	for i := range f.Payload {
		f.Payload[i] = byte(slot + 3*i)
	}
	return f
}

// Each of these does one thing, and tells of any other answer than the one
// that is wanted.

func starts(t *testing.T, m *member.Member) {
	t.Helper()
	if err := m.Start(); err != api.OK {
		t.Errorf("start: %v", err)
	}
}

func joins(t *testing.T, m *member.Member, slot int) {
	t.Helper()
	if err := m.Join(slot); err != api.OK {
		t.Errorf("join %d: %v", slot, err)
	}
}

func ends(t *testing.T, m *member.Member) {
	t.Helper()
	if err := m.Next(); err != api.OK {
		t.Errorf("next: %v", err)
	}
}

func turns(t *testing.T, m *member.Member, slot int, members uint16) {
	t.Helper()
	if s, ok := m.Turn(); !ok || s != (api.State{Slot: slot, Members: members}) {
		t.Errorf("turn: %v, %v, not slot %d, members %b", s, ok, slot, members)
	}
}

func turnsNone(t *testing.T, m *member.Member) {
	t.Helper()
	if s, ok := m.Turn(); ok || s != (api.State{}) {
		t.Errorf("turn: %v, %v, not nothing", s, ok)
	}
}

func accepts(t *testing.T, m *member.Member, f api.Frame) {
	t.Helper()
	if g, ok := m.Hear(sent(t, f), false); !ok || g != f {
		t.Errorf("hear: %v, %v, not %v", g, ok, f)
	}
}

func refusesBytes(t *testing.T, m *member.Member, b []byte) {
	t.Helper()
	if f, ok := m.Hear(b, false); ok || f != (api.Frame{}) {
		t.Errorf("hear: %v, %v, not nothing", f, ok)
	}
}

func refuses(t *testing.T, m *member.Member, f api.Frame) {
	t.Helper()
	refusesBytes(t, m, sent(t, f))
}

func hearsSilence(t *testing.T, m *member.Member) {
	t.Helper()
	if f, ok := m.Hear(nil, true); ok || f != (api.Frame{}) {
		t.Errorf("silence: %v, %v, not nothing", f, ok)
	}
}
