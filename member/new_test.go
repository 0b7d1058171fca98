package member_test

import (
	"math"
	"reflect"
	"testing"

	"rota/api"
	"rota/config"
	"rota/member"
)

// P9.1: a member that is Off, without a counter; its vector and counts are 0.
func TestNew(t *testing.T) {
	for _, c := range several() {
		for node := range c.Nodes {
			is(t, mustNew(t, c, node), off())
		}
	}
}

// P9.1: config's errors, each of them, in its order; also where there is no
// such node.
func TestNewOfWhatMayNotBe(t *testing.T) {
	for _, x := range []struct {
		turn func(c *api.Config)
		want api.Errno
	}{
		{func(c *api.Config) { *c = api.Config{} }, api.ErrNodes},
		{func(c *api.Config) { *c = owned(1, 0, 1, 2) }, api.ErrNodes},
		{func(c *api.Config) { c.Owners[0] = 0 }, api.ErrNodes},
		{func(c *api.Config) { c.Rejoin = 0 }, api.ErrClock},
		{func(c *api.Config) { c.Rejoin = 9 }, api.ErrClock},
		{func(c *api.Config) { c.Margin = 1 }, api.ErrClock},
		{func(c *api.Config) { c.Parts = []api.Part{{Node: 5}} }, api.ErrParts},
		{func(c *api.Config) { c.Windows[3][3] = 0 }, api.ErrWindows},
		{func(c *api.Config) { c.Ports = []api.Port{{Part: 0}} }, api.ErrPorts},
		{func(c *api.Config) { c.Links = []api.Link{{Source: 0}} }, api.ErrLinks},
		{func(c *api.Config) { c.Links, c.Rejoin = []api.Link{{Source: 0}}, -1 }, api.ErrClock},
	} {
		c := some()
		x.turn(&c)
		if err := config.Check(c); err != x.want {
			t.Fatalf("Check: %v, not %v", err, x.want)
		}
		for _, node := range []int{0, 3, 5, -1, math.MinInt} {
			if m, err := member.New(c, node); m != nil || err != x.want {
				t.Errorf("%v, %v, not %v", m, err, x.want)
			}
		}
	}
}

// P9.1: ErrArg, if there is no such node.
func TestNewOfNoNode(t *testing.T) {
	for _, c := range several() {
		for _, node := range append([]int{c.Nodes, c.Nodes + 1}, wild...) {
			if m, err := member.New(c, node); m != nil || err != api.ErrArg {
				t.Errorf("node %d: %v, %v", node, m, err)
			}
		}
	}
}

// inAllStates are members of node 1 in each state, with counts that are not 0.
func inAllStates(t *testing.T, c api.Config) []*member.Member {
	t.Helper()
	none := mustNew(t, c, 1)
	quiet := started(t, c, 1)
	hearsSilence(t, quiet)
	turnsNone(t, quiet)
	is(t, quiet, listens(2))
	other := turnOf(c, 0, 0)
	calm := following(t, c, 1, other, 1)
	act := joined(t, c, 1, other)
	hearsSilence(t, act)
	is(t, act, active(other, all(c)&^1, c.Nodes, 1))
	back := comeBack(t, c, 1)
	ice := comeBack(t, c, 1)
	ends(t, ice)
	turnsNone(t, ice)
	is(t, ice, frozen().with(calmBack(c), 0))
	return []*member.Member{none, quiet, calm, act, back, ice, gone(t, c, 1)}
}

// comeBack is one that followed another that is alone, and is Active again.
func comeBack(t *testing.T, c api.Config, node int) *member.Member {
	t.Helper()
	slot := turnOf(c, node, 0) + 1
	other := ownerOf(c, slot)
	m := following(t, c, node, slot, 1<<other)
	for calm := 2; calm <= calmBack(c); calm++ {
		ends(t, m)
		slot++
		switch ownerOf(c, slot) {
		case other:
			accepts(t, m, says(c, slot, 1<<other))
		case node:
			turnsNone(t, m)
		default:
			hearsSilence(t, m)
		}
		is(t, m, follows(slot, 1<<other, calm))
	}
	ends(t, m)
	slot++
	turns(t, m, slot, 1<<node|1<<other)
	is(t, m, active(slot, 1<<node|1<<other, 1, 0).with(calmBack(c), 0))
	return m
}

// calmBack is how calm it was: enough, and on until its turn came.
func calmBack(c api.Config) int { return (c.Rejoin+2)*c.Nodes - 1 }

// P9.1: Start, in whatever state it is: Listen, without a counter; all counts
// are 0.
func TestStart(t *testing.T) {
	for _, c := range several() {
		for _, m := range inAllStates(t, c) {
			starts(t, m)
			is(t, m, listens(0))
			accepts(t, m, says(c, turnOf(c, 0, 0), 1))
			starts(t, m)
			is(t, m, listens(0))
		}
	}
}

// P9.1: Join, in whatever state it is: Active, with that counter, and all;
// accepts are N; the other counts are 0.
func TestJoin(t *testing.T) {
	for _, c := range several() {
		for _, slot := range []int{0, 1, 7, 1 << 16, last - 1, last} {
			for _, m := range inAllStates(t, c) {
				joins(t, m, slot)
				is(t, m, active(slot, all(c), c.Nodes, 0))
				joins(t, m, slot/2)
				is(t, m, active(slot/2, all(c), c.Nodes, 0))
			}
		}
	}
}

// P9.1: ErrArg of a slot that there is not; and it is as it was.
func TestJoinInNoSlot(t *testing.T) {
	for _, c := range several() {
		for _, m := range inAllStates(t, c) {
			was := look(m)
			for _, slot := range []int{-1, -2, math.MinInt32, math.MinInt, last + 1, last + 2, 1 << 32, 1<<32 + 1, math.MaxInt} {
				if err := m.Join(slot); err != api.ErrArg {
					t.Errorf("join %d: %v", slot, err)
				}
				is(t, m, was)
			}
		}
	}
}

// P9.1: each member has its own tables, and its own mind.
func TestMembersApart(t *testing.T) {
	x, y, z := joined(t, chapters(), 1, 0), joined(t, some(), 1, 0), joined(t, chapters(), 1, 0)
	hearsSilence(t, x)
	accepts(t, y, says(some(), 0, all(some())))
	ends(t, y)
	starts(t, z)
	is(t, x, active(0, 14, 4, 1))
	is(t, y, active(1, 31, 6, 0))
	is(t, z, listens(0))
}

// P9.1 to P9.3: calls on none answer ErrNil, where they have an error, and
// else zeros, false, and -1. One that New did not make is none.
func TestNoMember(t *testing.T) {
	c := chapters()
	had := joined(t, c, 1, 1)
	fields := new(member.Member)
	*fields = *had
	b := sent(t, says(c, 2, 15))
	for _, m := range []*member.Member{nil, {}, new(member.Member), fields} {
		for range 2 {
			if err := m.Start(); err != api.ErrNil {
				t.Errorf("start: %v", err)
			}
			for _, slot := range append([]int{0, 1, 4}, wild...) {
				if err := m.Join(slot); err != api.ErrNil {
					t.Errorf("join: %v", err)
				}
			}
			if err := m.Next(); err != api.ErrNil {
				t.Errorf("next: %v", err)
			}
			turnsNone(t, m)
			hearsSilence(t, m)
			refusesBytes(t, m, nil)
			refusesBytes(t, m, b)
			is(t, m, seen{slot: -1})
		}
	}
	is(t, had, active(1, 15, 4, 0))
}

// P9.4: the configuration is only read, the room behind its lists too, and is
// not kept.
func TestConfigIsNotKept(t *testing.T) {
	c := some()
	c.Owners = append(c.Owners, -77)[:5]
	m := joined(t, c, 0, 0)
	n := following(t, c, 1, 0, 4)
	if !reflect.DeepEqual(c, some()) || c.Owners[:6][5] != -77 {
		t.Errorf("%v", c)
	}
	clear(c.Owners)
	clear(c.Windows)
	c.Nodes, c.Rejoin = 0, 0
	accepts(t, m, says(some(), 0, 31))
	ends(t, m)
	turns(t, m, 1, 31)
	ends(t, n)
	hearsSilence(t, n)
	is(t, n, follows(1, 4, 2))
	joins(t, n, 9)
	is(t, n, active(9, 31, 5, 0))
	l := started(t, some(), 3)
	for range 10 {
		hearsSilence(t, l)
	}
	turns(t, l, 4, 8)
}
