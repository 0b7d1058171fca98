package member_test

import (
	"bytes"
	"testing"

	"rota/api"
	"rota/frame"
	"rota/member"
)

// others are the slots of a round from one on that are not the node's.
func others(c api.Config, node, from int) []int {
	var l []int
	for slot := from; slot < from+c.Nodes; slot++ {
		if ownerOf(c, slot) != node {
			l = append(l, slot)
		}
	}
	return l
}

// wrong are bytes that none that believes this frame's state accepts.
func wrong(t *testing.T, c api.Config, f api.Frame) [][]byte {
	t.Helper()
	b := sent(t, f)
	l := [][]byte{nil, {}, {0}, b[:74], append(bytes.Clone(b), 0), make([]byte, 75)}
	for _, bit := range []int{0, 31, 32, 47, 48, 56, 300, 8*75 - 33, 8*75 - 1} {
		l = append(l, frame.Corrupt(b, bit, 1))
	}
	turned := func(turn func(*api.Frame)) {
		g := f
		turn(&g)
		l = append(l, sent(t, g))
	}
	turned(func(g *api.Frame) { g.Owner = (f.Owner + 1) % c.Nodes })
	turned(func(g *api.Frame) { g.State.Slot = (f.State.Slot + 1) % last })
	turned(func(g *api.Frame) { g.State.Slot = (f.State.Slot + c.Nodes) % last })
	for node := range c.Nodes {
		turned(func(g *api.Frame) { g.State.Members ^= 1 << node })
	}
	return l
}

// P9.2: who is Off or Frozen hears nothing.
func TestHearOfNoOne(t *testing.T) {
	for _, c := range several() {
		for node := range c.Nodes {
			m, n := mustNew(t, c, node), gone(t, c, node)
			for _, slot := range others(c, node, 0) {
				for _, x := range []*member.Member{m, n} {
					hearsSilence(t, x)
					refuses(t, x, says(c, slot, all(c)))
					refusesBytes(t, x, nil)
				}
				is(t, m, off())
				is(t, n, frozen())
			}
		}
	}
}

// P9.2: an Active one accepts what agrees with it: accepts are one more.
func TestHearActive(t *testing.T) {
	for _, c := range several() {
		for node := range c.Nodes {
			for _, slot := range append(others(c, node, 0), others(c, node, last-c.Nodes)...) {
				m := joined(t, c, node, slot)
				accepts(t, m, says(c, slot, all(c)))
				is(t, m, active(slot, all(c), c.Nodes+1, 0))
				accepts(t, m, says(c, slot, all(c)))
				is(t, m, active(slot, all(c), c.Nodes+2, 0))
			}
		}
	}
}

// P9.2: an Active one that hears silence of a member fails once more, and that
// is none any more; of who is none silence is no fail. When that one comes back,
// by a vector with its own bit, it is accepted, and a member again.
func TestHearActiveSilence(t *testing.T) {
	for _, c := range several() {
		for _, slot := range others(c, 1, 3) {
			left := all(c) &^ (1 << ownerOf(c, slot))
			m := joined(t, c, 1, slot)
			hearsSilence(t, m)
			is(t, m, active(slot, left, c.Nodes, 1))
			hearsSilence(t, m)
			is(t, m, active(slot, left, c.Nodes, 1))
			refuses(t, m, says(c, slot, left))
			is(t, m, active(slot, left, c.Nodes, 2))
			accepts(t, m, says(c, slot, all(c)))
			is(t, m, active(slot, all(c), c.Nodes+1, 2))
			hearsSilence(t, m)
			is(t, m, active(slot, left, c.Nodes+1, 3))
		}
	}
}

// P9.2: an Active one that hears what does not agree fails once more, whether
// the owner is a member or not, which it is not any more.
func TestHearActiveRefuses(t *testing.T) {
	for _, c := range several() {
		for _, slot := range others(c, 1, 3) {
			left := all(c) &^ (1 << ownerOf(c, slot))
			for _, b := range wrong(t, c, says(c, slot, all(c))) {
				m := joined(t, c, 1, slot)
				refusesBytes(t, m, b)
				is(t, m, active(slot, left, c.Nodes, 1))
				refusesBytes(t, m, b)
				is(t, m, active(slot, left, c.Nodes, 2))
			}
		}
	}
}

// P9.2: what silence is handed in with is not heard.
func TestSilenceIsNotBytes(t *testing.T) {
	c := some()
	f := says(c, 0, 31)
	for _, b := range [][]byte{nil, {}, {1}, sent(t, f)} {
		m, n, l := joined(t, c, 1, 0), following(t, c, 1, 0, 4), started(t, c, 1)
		for _, x := range []*member.Member{m, n, l} {
			if g, ok := x.Hear(b, true); ok || g != (api.Frame{}) {
				t.Errorf("%v, %v", g, ok)
			}
		}
		is(t, m, active(0, 27, 5, 1))
		is(t, n, follows(0, 0, 0))
		is(t, l, listens(1))
	}
}

// P9.2: an Active one that hears anything, or silence, while it is its own
// turn by its counter freezes.
func TestHearActiveInItsTurn(t *testing.T) {
	for _, c := range several() {
		for node := range c.Nodes {
			own := turnOf(c, node, 0)
			m := joined(t, c, node, own)
			hearsSilence(t, m)
			is(t, m, frozen())
			f := says(c, own, all(c))
			for _, b := range append(wrong(t, c, f), sent(t, f), sent(t, says(c, own+1, all(c)))) {
				m := joined(t, c, node, own)
				refusesBytes(t, m, b)
				is(t, m, frozen())
			}
		}
	}
}

// P9.2: one that follows accepts what agrees with it: its calm is one more; the
// owner is a member then, if it was not.
func TestHearFollowing(t *testing.T) {
	for _, c := range several() {
		for _, slot := range others(c, 1, 0) {
			owner := uint16(1) << ownerOf(c, slot)
			for _, vector := range []uint16{owner, owner | 2, all(c)} {
				m := following(t, c, 1, slot, vector)
				accepts(t, m, says(c, slot, vector))
				is(t, m, follows(slot, vector, 2))
				ends(t, m)
				if ownerOf(c, slot+1) == 1 {
					continue
				}
				next := vector | 1<<ownerOf(c, slot+1)
				accepts(t, m, says(c, slot+1, next))
				is(t, m, follows(slot+1, next, 3))
			}
		}
	}
}

// P9.2: one that follows and hears silence: of a member: that is none any more,
// and calm is 0; of who is none: calm is one more.
func TestHearFollowingSilence(t *testing.T) {
	for _, c := range several() {
		for _, slot := range others(c, 1, 0) {
			owner := uint16(1) << ownerOf(c, slot)
			for _, vector := range []uint16{owner, owner | 2, all(c)} {
				m := following(t, c, 1, slot, vector)
				accepts(t, m, says(c, slot, vector))
				hearsSilence(t, m)
				is(t, m, follows(slot, vector&^owner, 0))
				hearsSilence(t, m)
				is(t, m, follows(slot, vector&^owner, 1))
				hearsSilence(t, m)
				is(t, m, follows(slot, vector&^owner, 2))
				accepts(t, m, says(c, slot, vector))
				is(t, m, follows(slot, vector, 3))
			}
		}
	}
}

// P9.2: one that follows and hears what does not agree follows no more.
func TestHearFollowingRefuses(t *testing.T) {
	for _, c := range several() {
		for _, slot := range others(c, 1, 3) {
			f := says(c, slot, all(c))
			for _, b := range wrong(t, c, f) {
				m := following(t, c, 1, slot, f.State.Members)
				refusesBytes(t, m, b)
				is(t, m, listens(0))
			}
			m := following(t, c, 1, slot, f.State.Members)
			hearsSilence(t, m)
			f.State.Members &^= 1 << f.Owner
			refuses(t, m, f)
			is(t, m, listens(0))
		}
	}
}

// P9.2: one that follows and hears anything, or silence, while it is its own
// turn by its counter follows no more.
func TestHearFollowingInItsTurn(t *testing.T) {
	for _, c := range several() {
		own := turnOf(c, 1, 1)
		f := says(c, own, all(c))
		for _, b := range append(wrong(t, c, f), sent(t, f), sent(t, says(c, own+1, all(c)))) {
			m := following(t, c, 1, own-1, all(c))
			ends(t, m)
			refusesBytes(t, m, b)
			is(t, m, listens(0))
			m = following(t, c, 1, own-1, all(c))
			ends(t, m)
			hearsSilence(t, m)
			is(t, m, listens(0))
		}
	}
}

// P9.2: one that listens follows what it can take: its counter and vector are
// those told, its calm is 1, and quiet 0; whoever the members are that there
// are and have the owner's bit.
func TestHearListening(t *testing.T) {
	for _, c := range several() {
		for node := range c.Nodes {
			for _, slot := range append(others(c, node, 0), others(c, node, last-c.Nodes+1)...) {
				owner := uint16(1) << ownerOf(c, slot)
				for _, members := range []uint16{owner, owner | 1<<node, owner | 1, owner | 1<<(c.Nodes-1), all(c)} {
					m := started(t, c, node)
					for range slot % 40 {
						hearsSilence(t, m)
					}
					is(t, m, listens(slot%40))
					accepts(t, m, says(c, slot, members))
					is(t, m, follows(slot, members, 1))
				}
			}
		}
	}
}

// P9.2: bytes that one that listens can't take let it listen; it was not
// quiet.
func TestHearListeningRefuses(t *testing.T) {
	for _, c := range several() {
		slot := turnOf(c, 0, 5)
		good := says(c, slot, all(c))
		b := sent(t, good)
		l := [][]byte{nil, {}, b[:74], append(bytes.Clone(b), 0), make([]byte, 75), frame.Corrupt(b, 40, 1), frame.Corrupt(b, 599, 1)}
		turned := func(turn func(*api.Frame)) {
			g := good
			turn(&g)
			l = append(l, sent(t, g))
		}
		own := turnOf(c, 1, 3)
		turned(func(g *api.Frame) { *g = says(c, own, all(c)) }) // its own
		turned(func(g *api.Frame) { g.Owner = 1 })
		turned(func(g *api.Frame) { g.Owner = 2 })
		turned(func(g *api.Frame) { g.State.Slot++ })
		turned(func(g *api.Frame) { g.State.Slot = own })
		turned(func(g *api.Frame) { g.State.Members = 0 })
		turned(func(g *api.Frame) { g.State.Members &^= 1 })
		for node := c.Nodes; node < 16; node++ {
			turned(func(g *api.Frame) { g.State.Members |= 1 << node })
			turned(func(g *api.Frame) { g.State.Members = 1 | 1<<node })
			turned(func(g *api.Frame) { g.Owner, g.State.Members = node, 1<<16-1 })
		}
		for _, b := range l {
			m := started(t, c, 1)
			refusesBytes(t, m, b)
			is(t, m, listens(0))
			hearsSilence(t, m)
			turnsNone(t, m)
			hearsSilence(t, m)
			is(t, m, listens(3))
			refusesBytes(t, m, b)
			is(t, m, listens(0))
			accepts(t, m, good)
			is(t, m, follows(slot, all(c), 1))
		}
	}
}

// P9.2: silence lets one that listens be quiet for one more.
func TestHearListeningSilence(t *testing.T) {
	for _, c := range several() {
		m := started(t, c, 1)
		for quiet := range 5 * c.Nodes {
			is(t, m, listens(quiet))
			hearsSilence(t, m)
		}
		ends(t, m)
		is(t, m, listens(5*c.Nodes))
	}
}

// P9.4: bytes are only read, the room behind them too, and are not kept; and
// what was answered stays.
func TestBytesAreOnlyRead(t *testing.T) {
	c := some()
	f := says(c, 0, 31)
	whole := append(sent(t, f), 77, 77)
	kept := bytes.Clone(whole)
	for _, m := range []*member.Member{joined(t, c, 1, 0), started(t, c, 1), following(t, c, 1, 0, 31)} {
		for _, size := range []int{75, 74, 76, 0} {
			m.Hear(whole[:size], true)
			m.Hear(whole[:size], false)
			if !bytes.Equal(whole, kept) {
				t.Fatalf("%v", whole)
			}
		}
	}
	m := started(t, c, 1)
	g, ok := m.Hear(whole[:75], false)
	clear(whole)
	if !ok || g != f {
		t.Errorf("%v, %v", g, ok)
	}
	is(t, m, follows(0, 31, 1))
	ends(t, m)
	accepts(t, m, says(c, 1, 31))
	if g != f {
		t.Errorf("%v", g)
	}
}
