package member_test

import (
	"math/bits"
	"math/rand"
	"testing"

	"rota/api"
	"rota/member"
)

// group is members that hear each other, slot by slot, and who of them belongs,
// as the chapter's words have it.
type group struct {
	c       api.Config
	members []*member.Member
	slot    int
	belong  uint16
	left    map[int]uint16 // whom the event of a slot left
}

func newGroup(t *testing.T, c api.Config, slot int) *group {
	t.Helper()
	g := &group{c: c, slot: slot, belong: all(c), left: map[int]uint16{}}
	for node := range c.Nodes {
		g.members = append(g.members, joined(t, c, node, slot))
	}
	return g
}

// pass lets a slot pass, in which some do not hear what is sent; it says
// whether anything was.
func (g *group) pass(t *testing.T, deaf uint16) bool {
	t.Helper()
	owner := ownerOf(g.c, g.slot)
	s, ok := g.members[owner].Turn()
	var b []byte
	if ok {
		b = sent(t, api.Frame{Owner: owner, State: s})
	}
	for node, m := range g.members {
		if node != owner {
			m.Hear(b, !ok || deaf>>node&1 == 1)
		}
	}
	for _, m := range g.members {
		ends(t, m)
	}
	g.slot++
	return ok
}

// mayBe says whether an event may be that some do not hear: they do not include
// the sender, which belongs, and do not make up just half of those who belong.
func (g *group) mayBe(deaf uint16) bool {
	owner := uint16(1) << ownerOf(g.c, g.slot)
	missed := bits.OnesCount16(g.belong & deaf)
	return g.belong&owner != 0 && deaf&owner == 0 && 2*missed != bits.OnesCount16(g.belong)
}

// event is a slot in which some do not hear: those who belong behind it are the
// greater part of those who did ahead of it.
func (g *group) event(t *testing.T, deaf uint16) {
	t.Helper()
	heard, missed := g.belong&^deaf, g.belong&deaf
	if bits.OnesCount16(heard) < bits.OnesCount16(missed) {
		heard, missed = missed, heard
	}
	g.belong, g.left[g.slot] = heard, missed
	if !g.pass(t, deaf) {
		t.Fatalf("slot %d: who belongs sent nothing", g.slot-1)
	}
	g.agrees(t)
}

func (g *group) quiet(t *testing.T, slots int) {
	t.Helper()
	for range slots {
		g.pass(t, 0)
		g.agrees(t)
	}
}

// agrees is what is promised behind a slot: who belongs is Active, and has one
// vector; in it are those who belong, and of others none but whom an event of
// the last 2 times N slots left. Others are Frozen.
func (g *group) agrees(t *testing.T) {
	t.Helper()
	vector := g.members[bits.TrailingZeros16(g.belong)].Vector()
	for node, m := range g.members {
		if s := look(m); g.belong>>node&1 == 1 && (s.state != api.Active || s.vector != vector || s.slot != g.slot) {
			t.Fatalf("slot %d: node %d belongs, but %+v", g.slot-1, node, s)
		}
	}
	since := 0
	for at, who := range g.left {
		if at > g.slot-1-2*g.c.Nodes {
			since |= int(who)
		}
	}
	if vector&g.belong != g.belong || vector&^g.belong&^uint16(since) != 0 {
		t.Fatalf("slot %d: vector %b, but %b belong, and lately %b did", g.slot-1, vector, g.belong, since)
	}
	for node, m := range g.members {
		if (g.belong|uint16(since))>>node&1 == 0 && m.State() != api.Frozen {
			t.Fatalf("slot %d: node %d does not belong, but %+v", g.slot-1, node, look(m))
		}
	}
}

// P9.5: of four, and of five, whatever two events there are, each at any place
// of a round, as near to each other as may be and farther, and whoever does
// not hear.
func TestAnyTwoEvents(t *testing.T) {
	for _, c := range []api.Config{chapters(), owned(1, 4, 1, 0, 3, 2)} {
		for slot := range c.Nodes {
			for first := range all(c) {
				if newGroup(t, c, slot).mayBe(first) {
					anySecond(t, c, slot, first)
				}
			}
		}
	}
}

func anySecond(t *testing.T, c api.Config, slot int, first uint16) {
	t.Helper()
	for wait := 2 * c.Nodes; wait < 3*c.Nodes; wait++ {
		for second := range all(c) {
			g := newGroup(t, c, slot)
			g.event(t, first)
			g.quiet(t, wait)
			if g.mayBe(second) {
				g.event(t, second)
				g.quiet(t, 2*c.Nodes+1)
			}
		}
	}
}

// P9.5: of as many nodes as there may be, events by chance.
func TestEvents(t *testing.T) {
	r := rand.New(rand.NewSource(95))
	events, fewest := 0, 16
	for n := 4; n <= 16; n++ {
		for range 60 {
			c := owned(1+r.Intn(8), r.Perm(n)...)
			g := newGroup(t, c, []int{0, r.Intn(99), last - 2000}[r.Intn(3)])
			g.quiet(t, r.Intn(2*n))
			for range 8 {
				if deaf := anyDeaf(r, n); g.mayBe(deaf) {
					g.event(t, deaf)
					g.quiet(t, 2*n)
					events++
				}
				g.quiet(t, r.Intn(n)*r.Intn(2))
			}
			fewest = min(fewest, bits.OnesCount16(g.belong))
		}
	}
	if events < 2000 || fewest > 2 {
		t.Errorf("%d events, at last at least %d belong", events, fewest)
	}
}

func anyDeaf(r *rand.Rand, n int) uint16 {
	deaf := uint16(r.Intn(1 << n))
	if r.Intn(3) != 0 {
		deaf &= uint16(r.Intn(1 << n))
	}
	return deaf
}

// start starts some anew.
func (g *group) start(t *testing.T, who uint16) {
	t.Helper()
	for node, m := range g.members {
		if who>>node&1 == 1 {
			starts(t, m)
		}
	}
}

// agreed tells of a node that is not Active in this slot, with the vector of
// all.
func (g *group) agreed(t *testing.T) {
	t.Helper()
	for node, m := range g.members {
		if s := look(m); s.state != api.Active || s.vector != all(g.c) || s.slot != g.members[0].Slot() {
			t.Fatalf("slot %d: node %d: %+v, node 0: %+v", g.slot-1, node, s, look(g.members[0]))
		}
	}
}

// Whom an event left, and who is started then, listens, and comes back: all
// have one vector again, with all in it.
func TestComingBack(t *testing.T) {
	r := rand.New(rand.NewSource(96))
	for n := 4; n <= 16; n++ {
		for range 30 {
			c := owned(1+r.Intn(8), r.Perm(n)...)
			g := newGroup(t, c, r.Intn(99))
			for range 5 {
				deaf := anyDeaf(r, n)
				if !g.mayBe(deaf) {
					g.quiet(t, 1)
					continue
				}
				g.event(t, deaf)
				g.quiet(t, 2*n+r.Intn(n))
				g.start(t, all(c)&^g.belong)
				for range (c.Rejoin + 4) * n {
					g.pass(t, 0)
				}
				g.agreed(t)
				g.belong, g.left = all(c), map[int]uint16{}
			}
		}
	}
}

// Members that are started in any slots are all Active within Rejoin and eight
// rounds of the last start, with one vector and one counter.
func TestFromNothing(t *testing.T) {
	r := rand.New(rand.NewSource(97))
	for n := 4; n <= 16; n++ {
		for range 40 {
			c := owned(1+r.Intn(8), r.Perm(n)...)
			g := newGroup(t, c, 0)
			for node := range n {
				g.members[node] = mustNew(t, c, node)
			}
			g.slot = r.Intn(n)
			late := 1 + r.Intn(12*n)
			at := make([]int, n)
			for node := range at {
				at[node] = r.Intn(late)
			}
			for slot := range late + (c.Rejoin+8)*n {
				for node := range n {
					if at[node] == slot {
						g.start(t, 1<<node)
					}
				}
				g.pass(t, 0)
			}
			g.agreed(t)
		}
	}
}
