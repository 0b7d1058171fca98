package node_test

import (
	"math"
	"reflect"
	"testing"

	"rota/api"
	"rota/config"
	"rota/node"
)

// P10.1, P10.3: the chapter's example.
func TestExample(t *testing.T) {
	n := joined(t, chapters(), 1, 1)
	b, l, ok := n.Send(1)
	if len(b) != 75 || len(l) != 0 || !ok || n.State() != api.Active {
		t.Errorf("%v, %v, %v, state %d", b, l, ok, n.State())
	}
	sendsNone(t, mustNew(t, chapters(), 1), 1)
}

// isNew tells of anything of a node that is not as it is at first.
func isNew(t *testing.T, n *node.Node, c api.Config) {
	t.Helper()
	for part := range c.Parts {
		if f := n.Faults(part); f != 0 {
			t.Errorf("partition %d: %d faults", part, f)
		}
	}
	for port := range c.Ports {
		waits(t, n, port, 0)
	}
}

// P10.1: a node that is off, its clock at 0.
func TestNew(t *testing.T) {
	for _, c := range several() {
		for id := range c.Nodes {
			n := mustNew(t, c, id)
			is(t, n, seen{api.Off, 0, -1, 0})
			isNew(t, n, c)
		}
	}
}

// P10.1: config's errors, each of them, in its order; also where there is no
// such node.
func TestNewOfWhatMayNotBe(t *testing.T) {
	for _, x := range []struct {
		turn func(c *api.Config)
		want api.Errno
	}{
		{func(c *api.Config) { *c = api.Config{} }, api.ErrNodes},
		{func(c *api.Config) { *c = bare(0, 1, 2) }, api.ErrNodes},
		{func(c *api.Config) { c.Owners[0] = 0 }, api.ErrNodes},
		{func(c *api.Config) { c.Margin = 1 }, api.ErrClock},
		{func(c *api.Config) { c.Quota = 17 }, api.ErrClock},
		{func(c *api.Config) { c.Parts[2].From = 7 }, api.ErrParts},
		{func(c *api.Config) { c.Windows[3][3] = 0 }, api.ErrWindows},
		{func(c *api.Config) { c.Ports[12].Part = 4 }, api.ErrPorts},
		{func(c *api.Config) { c.Links[3].Offset = 63 }, api.ErrLinks},
		{func(c *api.Config) { c.Links[3].Offset, c.Rejoin = 63, 9 }, api.ErrClock},
	} {
		c := some()
		x.turn(&c)
		if err := config.Check(c); err != x.want {
			t.Fatalf("Check: %v, not %v", err, x.want)
		}
		for _, id := range []int{0, 3, 5, -1, math.MinInt} {
			if n, err := node.New(c, id); n != nil || err != x.want {
				t.Errorf("%v, %v, not %v", n, err, x.want)
			}
		}
	}
}

// P10.1: ErrArg, if there is no such node.
func TestNewOfNoNode(t *testing.T) {
	for _, c := range several() {
		for _, id := range append([]int{c.Nodes, c.Nodes + 1}, wild...) {
			if n, err := node.New(c, id); n != nil || err != api.ErrArg {
				t.Errorf("node %d: %v, %v", id, n, err)
			}
		}
	}
}

// P10.1: Start, in whatever state it is: it listens, and its clock has that
// offset; the ends are offsets, too.
func TestStart(t *testing.T) {
	for _, c := range several() {
		for _, offset := range []int{0, 1, -1, 1000, far, -far, far - 1, 1 - far} {
			starts(t, mustNew(t, c, 1), offset)
			for _, n := range inAllStates(t, c, 1) {
				starts(t, n, offset)
				starts(t, n, -offset)
			}
		}
	}
}

// P10.1: its kernel is restarted: memory, messages and faults are as at first.
func TestStartOfTheKernel(t *testing.T) {
	c := some()
	slot := turnOf(c, 2, 0)
	for range 3 {
		n := joined(t, c, 0, slot)
		runs(t, n, 0, 0, fine(write(3, 9)), fine(put(0, 1, 2)), fine(put(6, 1, 2, 3)), not(raise, api.ErrRaised))
		runs(t, n, 2, 0, not(raise, api.ErrRaised), not(raise, api.ErrRaised), not(raise, api.ErrRaised))
		hears(t, n, slot, says(t, c, slot, 31, with(payload{}, 62, 7)), 0, come(slot, 0, 10, 3, 7), come(slot, 0, 9, 3, 7))
		starts(t, n, 5)
		isNew(t, n, c)
		runs(t, n, 0, 0, fine(read(3), 0), not(get(9), api.ErrEmpty))
		runs(t, n, 2, 0, fine(read(0), 0), not(get(10), api.ErrEmpty))
	}
}

// P10.1: its member is started: it knows no slot, counts anew, and is not to be
// active before it was quiet for two rounds.
func TestStartOfTheMember(t *testing.T) {
	c := chapters()
	n := started(t, c, 1, 0)
	for slot := range 7 {
		hearsSilence(t, n, slot, 0)
	}
	starts(t, n, 0)
	for slot := range 8 {
		sendsNone(t, n, slot)
		is(t, n, seen{api.Listen, 0, -1, 0})
	}
	sends(t, n, 8, api.Frame{Owner: 1, State: api.State{Slot: 1, Members: 2}})
}

// heard is one that is Active in a slot of node 0, by the way has heard of it
// that it is ahead, and ought to move its clock at the round's end.
func heard(t *testing.T, c api.Config, reading int) *node.Node {
	t.Helper()
	n := joined(t, c, 1, 0)
	hearsNone(t, n, 0, says(t, c, 0, all(c), payload{}), reading)
	return n
}

// P10.1: there are no readings: what was heard before moves the clock no more.
func TestStartForgets(t *testing.T) {
	c := chapters()
	ends(t, heard(t, c, 40), 3, 20) // of 0, its own, and 40
	n := heard(t, c, 40)
	starts(t, n, 7)
	joins(t, n, 0)
	ends(t, n, 3, 0)
	is(t, n, seen{api.Active, 15, 1, 7})
}

// P10.1: ErrArg, unless the clock takes that offset; all is as it was.
func TestStartOfNoOffset(t *testing.T) {
	c := chapters()
	for _, offset := range []int{far + 1, -far - 1, 1 << 41, math.MaxInt, math.MinInt, math.MaxInt - 1} {
		n := heard(t, c, 40)
		was := look(n)
		for range 2 {
			if err := n.Start(offset); err != api.ErrArg {
				t.Errorf("start %d: %v", offset, err)
			}
			is(t, n, was)
		}
		ends(t, n, 3, 20)

		k := joined(t, some(), 0, 0)
		runs(t, k, 0, 0, fine(write(1, 5)), fine(put(0, 1, 2)), not(raise, api.ErrRaised))
		if err := k.Start(offset); err != api.ErrArg {
			t.Errorf("start %d: %v", offset, err)
		}
		waits(t, k, 0, 1)
		runs(t, k, 0, 0, fine(read(1), 5))
		if k.Faults(0) != 1 {
			t.Errorf("%d faults", k.Faults(0))
		}

		off := mustNew(t, c, 2)
		if err := off.Start(offset); err != api.ErrArg {
			t.Errorf("start %d: %v", offset, err)
		}
		is(t, off, seen{counter: -1})
	}
}

// P10.1: Join is the member's: Active, with that counter, and all; its kernel
// and its clock are as they were.
func TestJoin(t *testing.T) {
	for _, c := range several() {
		for _, slot := range []int{0, 1, 7, 1 << 16, last - 1, last} {
			n := mustNew(t, c, 1)
			joins(t, n, slot)
			is(t, n, seen{api.Active, all(c), slot, 0})
			for _, n := range inAllStates(t, c, 1) {
				joins(t, n, slot)
				is(t, n, seen{api.Active, all(c), slot, 0})
				joins(t, n, slot/2)
				is(t, n, seen{api.Active, all(c), slot / 2, 0})
			}
		}
	}
	n := started(t, some(), 0, 77)
	runs(t, n, 0, 0, fine(write(1, 5)), fine(put(0, 1, 2)), not(raise, api.ErrRaised))
	joins(t, n, 9)
	is(t, n, seen{api.Active, 31, 9, 77})
	runs(t, n, 0, 0, fine(read(1), 5))
	waits(t, n, 0, 1)
	if n.Faults(0) != 1 {
		t.Errorf("%d faults", n.Faults(0))
	}
	k := heard(t, chapters(), 40)
	joins(t, k, 0)
	ends(t, k, 3, 20)
}

// P10.1: Join answers what the member's does: ErrArg of a slot that there is
// not; and it is as it was.
func TestJoinInNoSlot(t *testing.T) {
	for _, c := range several() {
		states := inAllStates(t, c, 1)
		states["off"] = mustNew(t, c, 1)
		for _, n := range states {
			was := look(n)
			for _, slot := range append([]int{last + 1, last + 2, 1 << 32, 1<<32 + 1, math.MaxInt}, below...) {
				if err := n.Join(slot); err != api.ErrArg {
					t.Errorf("join %d: %v", slot, err)
				}
				is(t, n, was)
			}
		}
	}
}

// P10.1 to P10.6: calls on none answer ErrNil, where they have an error, and
// else zeros, false, nothing, and -1. One that New did not make is none.
func TestNoNode(t *testing.T) {
	c := some()
	had := joined(t, c, 0, 0)
	runs(t, had, 0, 0, fine(put(0, 1, 2)), not(raise, api.ErrRaised))
	fields := new(node.Node)
	*fields = *had
	b := says(t, c, 0, 31, with(payload{}, 62, 7))
	for _, n := range []*node.Node{nil, {}, new(node.Node), fields} {
		for _, x := range append([]int{0, 1, 4}, wild...) {
			for _, err := range []api.Errno{n.Start(x), n.Join(x), n.Drift(x)} {
				if err != api.ErrNil {
					t.Errorf("%v", err)
				}
			}
			if by, err := n.End(x); by != 0 || err != api.ErrNil {
				t.Errorf("%d, %v", by, err)
			}
			runsNone(t, n, 0, x, read(0))
			runsNone(t, n, x, 0, read(0))
			sendsNone(t, n, x)
			hearsNone(t, n, x, b, 0)
			hearsSilence(t, n, x, x)
			if r := n.Reading(x, 1); r != 0 {
				t.Errorf("reading %d", r)
			}
			if n.Faults(x) != 0 || n.Waiting(x) != 0 {
				t.Errorf("%d, %d", n.Faults(x), n.Waiting(x))
			}
			is(t, n, seen{counter: -1})
		}
	}
	is(t, had, seen{api.Active, 31, 0, 0})
	waits(t, had, 0, 1)
	runs(t, had, 0, 0, fine(read(0), 0))
}

// P10.1: each node has its own tables, kernel, member and clock.
func TestNodesApart(t *testing.T) {
	x, y, z := joined(t, some(), 0, 0), joined(t, some(), 0, 0), started(t, chapters(), 0, 9)
	runs(t, x, 0, 0, fine(put(0, 1, 2)), fine(write(0, 9)), not(raise, api.ErrRaised))
	hearsSilence(t, x, 0, 0)
	ends(t, x, 0, 0)
	if err := x.Drift(2); err != api.OK {
		t.Error(err)
	}
	is(t, x, seen{api.Active, 27, 1, 2})
	is(t, y, seen{api.Active, 31, 0, 0})
	is(t, z, seen{api.Listen, 0, -1, 9})
	waits(t, y, 0, 0)
	runs(t, y, 0, 0, fine(read(0), 0))
	if y.Faults(0) != 0 {
		t.Errorf("%d faults", y.Faults(0))
	}
}

// What else its parts do is not to be called on a node: it is no kernel, no
// member, and no clock.
func TestWhatIsCalled(t *testing.T) {
	var names []string
	of := reflect.TypeFor[*node.Node]()
	for i := range of.NumMethod() {
		names = append(names, of.Method(i).Name)
	}
	want := []string{"Counter", "Drift", "End", "Faults", "Hear", "Join", "Offset", "Reading", "Send", "Start", "State", "Vector", "Waiting", "Window"}
	if !reflect.DeepEqual(names, want) {
		t.Errorf("%v", names)
	}
	for i := range of.Elem().NumField() {
		if f := of.Elem().Field(i); f.IsExported() {
			t.Errorf("field %s", f.Name)
		}
	}
}
