package member_test

import "testing"

// P9.1 to P9.3: the chapter's examples.
func TestExamples(t *testing.T) {
	c := chapters()
	m := joined(t, c, 1, 0)
	hearsSilence(t, m)
	is(t, m, active(0, 0b1110, 4, 1))
	ends(t, m)
	turns(t, m, 1, 0b1110)
	for range 3 {
		ends(t, m)
		hearsSilence(t, m)
	}
	is(t, m, active(4, 0b0010, 1, 2))
	ends(t, m)
	turnsNone(t, m)
	is(t, m, frozen())

	turns(t, joined(t, c, 1, 1), 1, 0b1111)

	l := started(t, c, 1)
	for slot := range 8 {
		if ownerOf(c, slot) == 1 {
			turnsNone(t, l)
		} else {
			hearsSilence(t, l)
		}
		ends(t, l)
	}
	is(t, l, listens(8))
	turns(t, l, 1, 0b0010)
	is(t, l, active(1, 0b0010, 1, 0).with(0, 8))
}

// P9.2: whose turn comes while it is Off or Frozen sends nothing, and stays.
func TestTurnOfNoOne(t *testing.T) {
	for _, c := range several() {
		for node := range c.Nodes {
			m, n := mustNew(t, c, node), gone(t, c, node)
			for range 3 * c.Nodes {
				turnsNone(t, m)
				turnsNone(t, n)
				is(t, m, off())
				is(t, n, frozen())
			}
		}
	}
}

// P9.2: an Active one sends its counter and its vector; then accepts are 1,
// and fails 0.
func TestTurnActive(t *testing.T) {
	for _, c := range several() {
		for node := range c.Nodes {
			for _, from := range []int{0, 1000, last - 2*c.Nodes} {
				slot := turnOf(c, node, from)
				m := joined(t, c, node, slot)
				turns(t, m, slot, all(c))
				is(t, m, active(slot, all(c), 1, 0))
				turns(t, m, slot, all(c))
				is(t, m, active(slot, all(c), 1, 0))
			}
		}
	}
}

// P9.2: one whose turn comes while it is another's by its counter freezes.
func TestTurnActiveOutOfTurn(t *testing.T) {
	for _, c := range several() {
		for node := range c.Nodes {
			for slot := range 2 * c.Nodes {
				if ownerOf(c, slot) == node {
					continue
				}
				m := joined(t, c, node, slot)
				turnsNone(t, m)
				is(t, m, frozen())
				turnsNone(t, m)
				starts(t, m)
				is(t, m, listens(0))
			}
		}
	}
}

// P9.2: one whose accepts are not more than its fails freezes in its turn;
// not ahead of it.
func TestTurnActiveOfTheLesserPart(t *testing.T) {
	for _, c := range several() {
		first := turnOf(c, 1, 0)
		for failing := range c.Nodes {
			m := joined(t, c, 1, first)
			turns(t, m, first, all(c))
			vector := all(c)
			for i := 1; i < c.Nodes; i++ {
				ends(t, m)
				if i <= failing {
					hearsSilence(t, m)
					vector &^= 1 << ownerOf(c, first+i)
				} else {
					accepts(t, m, says(c, first+i, vector))
				}
				is(t, m, active(first+i, vector, 1+max(0, i-failing), min(i, failing)))
			}
			ends(t, m)
			if c.Nodes-failing > failing {
				turns(t, m, first+c.Nodes, vector)
				is(t, m, active(first+c.Nodes, vector, 1, 0))
			} else {
				turnsNone(t, m)
				is(t, m, frozen())
			}
		}
	}
}

// P9.2: one that follows, and whose turn comes while it is another's by its
// counter, follows no more; however calm it was.
func TestTurnFollowingOutOfTurn(t *testing.T) {
	for _, c := range several() {
		for node := range c.Nodes {
			for slot := range c.Nodes {
				if ownerOf(c, slot) == node {
					continue
				}
				owner := ownerOf(c, slot)
				for _, calm := range []int{0, 1, 9 * c.Nodes} {
					m := following(t, c, node, slot, 1<<owner)
					for range calm {
						accepts(t, m, says(c, slot, 1<<owner))
					}
					is(t, m, follows(slot, 1<<owner, calm+1))
					turnsNone(t, m)
					is(t, m, listens(0))
				}
			}
		}
	}
}

// P9.2: one that follows is active anew in its turn, when calm is at least
// (Rejoin + 1) times N; else its calm is one more, if it is no member by its
// own vector.
func TestTurnFollowingComesBack(t *testing.T) {
	for _, c := range several() {
		for _, node := range []int{0, 1, c.Nodes - 1} {
			own := turnOf(c, node, 1)
			other := ownerOf(c, own-1)
			least := (c.Rejoin + 1) * c.Nodes
			for calm := 1; calm <= least+2; calm++ {
				m := following(t, c, node, own-1, 1<<other)
				for range calm - 1 {
					accepts(t, m, says(c, own-1, 1<<other))
				}
				ends(t, m)
				is(t, m, follows(own, 1<<other, calm))
				if calm < least {
					turnsNone(t, m)
					is(t, m, follows(own, 1<<other, calm+1))
					continue
				}
				turns(t, m, own, 1<<other|1<<node)
				is(t, m, active(own, 1<<other|1<<node, 1, 0).with(calm, 0))
			}
		}
	}
}

// P9.2: one that follows, and is a member by its vector, is none any more
// behind its turn: calm is 0; and in the next one calm grows. But one that is
// calm enough is active anew.
func TestTurnFollowingOfWhomIsAMember(t *testing.T) {
	for _, c := range several() {
		own := turnOf(c, 1, 1)
		least := (c.Rejoin + 1) * c.Nodes
		for _, vector := range []uint16{1<<ownerOf(c, own-1) | 2, all(c)} {
			for _, calm := range []int{1, 5, least - 1, least, least + 1} {
				m := following(t, c, 1, own-1, vector)
				for range calm - 1 {
					accepts(t, m, says(c, own-1, vector))
				}
				ends(t, m)
				is(t, m, follows(own, vector, calm))
				if calm >= least {
					turns(t, m, own, vector)
					is(t, m, active(own, vector, 1, 0).with(calm, 0))
					continue
				}
				turnsNone(t, m)
				is(t, m, follows(own, vector&^2, 0))
				turnsNone(t, m)
				is(t, m, follows(own, vector&^2, 1))
			}
		}
	}
}

// P9.2: one that hears nobody is active in its turn, when it was quiet for 2
// times N: its counter is the place of its slot, it alone is a member; else
// quiet is one more.
func TestTurnListening(t *testing.T) {
	for _, c := range several() {
		for node := range c.Nodes {
			slot := turnOf(c, node, 0)
			m := started(t, c, node)
			for quiet := range 2 * c.Nodes {
				turnsNone(t, m)
				is(t, m, listens(quiet+1))
			}
			turns(t, m, slot, 1<<node)
			is(t, m, active(slot, 1<<node, 1, 0).with(0, 2*c.Nodes))
			turns(t, m, slot, 1<<node)

			for _, quiet := range []int{0, c.Nodes, 2*c.Nodes - 1, 2 * c.Nodes, 2*c.Nodes + 1, 99} {
				starts(t, m)
				for range quiet {
					hearsSilence(t, m)
				}
				is(t, m, listens(quiet))
				if quiet < 2*c.Nodes {
					turnsNone(t, m)
					is(t, m, listens(quiet+1))
					continue
				}
				turns(t, m, slot, 1<<node)
				is(t, m, active(slot, 1<<node, 1, 0).with(0, quiet))
			}
		}
	}
}

// P9.2: behind a slot the counter, if there is one, is one more; the rest
// stays.
func TestNext(t *testing.T) {
	for _, c := range several() {
		for _, m := range inAllStates(t, c) {
			for range 3 * c.Nodes {
				want := look(m)
				if want.slot >= 0 {
					want.slot++
				}
				ends(t, m)
				is(t, m, want)
			}
		}
	}
}

// P9.2: behind the last slot that there is an Active one freezes, and one that
// follows does so no more.
func TestNextOfTheLast(t *testing.T) {
	for _, c := range several() {
		m := joined(t, c, 1, last-1)
		ends(t, m)
		is(t, m, active(last, all(c), c.Nodes, 0))
		ends(t, m)
		is(t, m, frozen())
		ends(t, m)
		is(t, m, frozen())

		slot := last
		for ownerOf(c, slot) == 1 {
			slot--
		}
		n := following(t, c, 1, slot, all(c))
		for n.Slot() < last {
			ends(t, n)
		}
		is(t, n, follows(last, all(c), 1))
		ends(t, n)
		is(t, n, listens(0))
		ends(t, n)
		is(t, n, listens(0))
	}
}

// P9.2: who froze keeps calm and quiet, as the words have it.
func TestFrozenKeepsCalm(t *testing.T) {
	for _, c := range several() {
		m := comeBack(t, c, 0)
		ends(t, m)
		turnsNone(t, m)
		is(t, m, frozen().with(calmBack(c), 0))

		n := started(t, c, 0)
		for range 2 * c.Nodes {
			turnsNone(t, n)
		}
		turns(t, n, turnOf(c, 0, 0), 1)
		hearsSilence(t, n)
		is(t, n, frozen().with(0, 2*c.Nodes))
	}
}
