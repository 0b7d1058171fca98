package cluster_test

import (
	"math/bits"
	"math/rand"
	"testing"

	"rota/api"
	"rota/cluster"
)

// course is a run under the fault hypothesis: who belongs, and what its events
// were.
type course struct {
	c      api.Config
	r      *rand.Rand
	k      *cluster.Cluster
	belong uint16
	// lost and started are of each node the slot of the last event that it was a
	// loser of, and in which it was started last; last is that of the last event.
	lost, started []int
	last          int
	events, backs int
	ideal         *ideal
}

// never is so long ago that nothing hangs on it.
const never = -1 << 20

func newCourse(t *testing.T, r *rand.Rand, c api.Config, slots int) *course {
	t.Helper()
	streams := anyStreams(r, c, slots)
	s := &course{c: c, r: r, k: mustNew(t, c, true, streams...), belong: all(c), last: never, ideal: newIdeal(t, c, streams)}
	for range c.Nodes {
		s.lost = append(s.lost, never)
		s.started = append(s.started, never)
	}
	return s
}

// bitsOf are the numbers of the nodes whose bits these are.
func bitsOf(who uint16) []int {
	var l []int
	for ; who != 0; who &= who - 1 {
		l = append(l, bits.TrailingZeros16(who))
	}
	return l
}

func (s *course) belongs(id int) bool { return s.belong>>id&1 == 1 }

// pass lets a slot pass, and finds who belongs behind it.
func (s *course) pass(t *testing.T) {
	t.Helper()
	slot := s.k.Slot()
	owner := ownerOf(s.c, slot)
	x, losers := s.choose(slot, owner)
	wasListening := s.k.State(owner) == api.Listen
	s.ideal.run(slot, x)
	steps(t, s.k, x)
	for _, id := range bitsOf(losers) {
		s.lost[id], s.last = slot, slot
	}
	for _, id := range bitsOf(x.Restart) {
		s.started[id] = slot
	}
	s.belong &^= losers
	if losers != 0 {
		s.events++
	}
	if wasListening && s.k.State(owner) == api.Active {
		s.belong |= 1 << owner
		s.backs++
	}
	s.ideal.sound &^= losers &^ x.Restart
	s.ideal.send(slot, owner, s.belong)
}

// choose is a choice, and who loses by it.
func (s *course) choose(slot, owner int) (api.Choice, uint16) {
	n := s.c.Nodes
	x := api.Choice{
		Drift:   anyNumbers(s.r, n, 2*s.c.Drift+1),
		Misread: anyNumbers(s.r, n, 2*s.c.Reading+1),
		Offsets: anyNumbers(s.r, n, oneOf(s.r, 0, 100, far)),
	}
	if s.r.Intn(4) == 0 {
		x.Babble = []api.Send{{Node: (owner + 1 + s.r.Intn(n-1)) % n, Bytes: make([]byte, s.r.Intn(80))}}
	}
	for id := range n {
		if !s.belongs(id) && s.r.Intn(4*n) == 0 {
			x.Restart |= 1 << id
		}
	}
	if slot-s.last <= 2*n || s.r.Intn(n) != 0 || s.mayComeBack(owner) {
		return x, 0
	}
	return s.chooseEvent(x, owner)
}

// mayComeBack says whether the owner of the slot may come back in it. Where
// that is an event, too, others that are about to come back do not hear the one
// that does, as who does not belong hears silence; and they do not agree then.
func (s *course) mayComeBack(owner int) bool {
	return s.k.State(owner) == api.Listen && s.k.Slot()-s.started[owner] >= (s.c.Rejoin+1)*s.c.Nodes
}

// chooseEvent makes an event of a choice, if one may be.
func (s *course) chooseEvent(x api.Choice, owner int) (api.Choice, uint16) {
	many := bits.OnesCount16(s.belong)
	others := s.belong &^ (1 << owner)
	var losers, deafs uint16
	switch {
	case many < 3:
		return x, 0
	case s.r.Intn(3) == 0:
		losers = 1 << oneOf(s.r, bitsOf(s.belong)...)
		deafs = losers
		x.Restart |= losers
	case !s.belongs(owner):
		return x, 0
	case s.r.Intn(4) == 0:
		losers = 1 << owner
		x.Forged = make([]byte, s.r.Intn(80))
	default:
		deafs = others & oneOf(s.r, uint16(s.r.Intn(1<<s.c.Nodes)), 1<<s.r.Intn(s.c.Nodes))
		losers = s.lesser(deafs)
		if losers == 0 {
			return x, 0
		}
	}
	x.Copies = s.copies(deafs)
	return x, losers
}

// lesser is the lesser part of who belong, if some do not hear their owner; none,
// if both are just as many.
func (s *course) lesser(deafs uint16) uint16 {
	heard := s.belong &^ deafs
	switch many := bits.OnesCount16(heard) - bits.OnesCount16(deafs); {
	case many > 0:
		return deafs
	case many < 0:
		return heard
	}
	return 0
}

// copies are such that some of who belong, and all who do not, do not hear what
// is sent.
func (s *course) copies(deafs uint16) []api.Copy {
	l := make([]api.Copy, s.c.Nodes)
	for id := range l {
		switch {
		case !s.belongs(id):
			l[id].Kind = api.CopyLost
		case deafs>>id&1 == 1:
			l[id] = oneOf(s.r, api.Copy{Kind: api.CopyLost}, api.Copy{Kind: api.CopyBurst, At: s.r.Intn(600 - 32), Mask: 1<<s.r.Intn(32) | s.r.Uint32()})
		}
	}
	return l
}
