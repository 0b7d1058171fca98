package cluster_test

import (
	"testing"

	"rota/api"
	"rota/cluster"
	"rota/config"
)

// P11.1 to P11.3: the chapter's example.
func TestExample(t *testing.T) {
	k := mustNew(t, chapters(), true, []api.Op{read(0)})
	steps(t, k, api.Choice{})
	if k.Slot() != 1 {
		t.Errorf("slot %d", k.Slot())
	}
	traces(t, k, 0, did(0, api.OK, 0))
	for id := range 4 {
		is(t, k, id, seen{api.Active, 0b1111, 1, 0})
	}

	k = mustNew(t, chapters(), false, []api.Op{read(0)})
	steps(t, k, api.Choice{})
	for id := range 4 {
		is(t, k, id, seen{api.Off, 0, -1, 0})
	}
	traces(t, k, 0)
}

// The document's tenth example of the whole.
func TestByteSeven(t *testing.T) {
	c := bare(0, 1, 2, 3)
	c.Parts = []api.Part{{Node: 0}, {Node: 1}}
	c.Windows[0], c.Windows[1] = []int{0, 0, 0, 0}, []int{1, 1, 1, 1}
	c.Ports = []api.Port{source(0, 1, 1), queue(1, 1, 1)}
	c.Links = []api.Link{{Source: 0, Dests: []int{1}}}
	k := mustNew(t, c, true, []api.Op{put(0, 7)}, []api.Op{get(1), yield, get(1)})
	idles(t, k, 2)
	traces(t, k, 0, did(0, api.OK))
	traces(t, k, 1, did(0, api.ErrEmpty), did(0, api.OK), did(1, api.OK, 7))
	comes(t, k, come(0, 1, 1, 0, 7))
}

// P11.1: a cluster in slot 0, in which nothing came to pass; all have joined in
// slot 0, or are off.
func TestNew(t *testing.T) {
	for _, c := range several() {
		for want, hot := range map[seen]bool{
			{api.Active, all(c), 0, 0}: true,
			{api.Off, 0, -1, 0}:        false,
		} {
			k := mustNew(t, c, hot)
			for id := range c.Nodes {
				is(t, k, id, want)
			}
			for part := range c.Parts {
				traces(t, k, part)
				if k.Faults(part) != 0 {
					t.Errorf("partition %d: %d faults", part, k.Faults(part))
				}
			}
			comes(t, k)
			if k.Slot() != 0 || k.Blocked() != 0 {
				t.Errorf("slot %d, %d blocked", k.Slot(), k.Blocked())
			}
		}
	}
}

// P11.1: who has joined has the accepts of a whole round: it takes a round in
// which it hears nobody as one that fails, and no more than it.
func TestNewHasJoined(t *testing.T) {
	c := chapters()
	k := mustNew(t, c, true)
	steps(t, k, deaf(1<<3), deaf(1<<3), deaf(1<<3), api.Choice{})
	is(t, k, 3, seen{api.Active, 0b1000, 4, 0})
	steps(t, k, deaf(1<<3), api.Choice{}, api.Choice{}, api.Choice{})
	is(t, k, 3, seen{api.Frozen, 0, -1, 0})
}

// wrong are configurations that may not be, and what error each has.
func wrong(t *testing.T) map[api.Errno]api.Config {
	t.Helper()
	all := map[api.Errno]api.Config{}
	for want, turn := range map[api.Errno]func(c *api.Config){
		api.ErrNodes:   func(c *api.Config) { c.Owners[0], c.Rejoin = 0, 9 },
		api.ErrClock:   func(c *api.Config) { c.Margin, c.Links[0].Offset = 1, 64 },
		api.ErrParts:   func(c *api.Config) { c.Parts[2].From = 7 },
		api.ErrWindows: func(c *api.Config) { c.Windows[3][3] = 0 },
		api.ErrPorts:   func(c *api.Config) { c.Ports[6].Part = 5 },
		api.ErrLinks:   func(c *api.Config) { c.Links[0].Offset = 63 },
	} {
		c := some()
		turn(&c)
		if err := config.Check(c); err != want {
			t.Fatalf("Check: %v, not %v", err, want)
		}
		all[want] = c
	}
	return all
}

// P11.1: config's error comes first, also where there are too many streams.
func TestNewOfWhatMayNotBe(t *testing.T) {
	for want, c := range wrong(t) {
		for _, hot := range []bool{true, false} {
			for _, streams := range []int{0, 5, 6, 99} {
				if k, err := cluster.New(c, make([][]api.Op, streams), hot); k != nil || err != want {
					t.Errorf("%d streams: %v, %v, not %v", streams, k, err, want)
				}
			}
		}
	}
	if k, err := cluster.New(api.Config{}, nil, true); k != nil || err != api.ErrNodes {
		t.Errorf("%v, %v", k, err)
	}
}

// P11.1: ErrArg, if there are more streams than partitions, empty ones too.
func TestNewOfTooManyStreams(t *testing.T) {
	for _, c := range several() {
		for more := 1; more < 100; more *= 3 {
			if k, err := cluster.New(c, make([][]api.Op, len(c.Parts)+more), true); k != nil || err != api.ErrArg {
				t.Errorf("%d more: %v, %v", more, k, err)
			}
		}
		mustNew(t, c, true, make([][]api.Op, len(c.Parts))...)
	}
}

// P11.1: of whom no stream is handed in has an empty one.
func TestNewOfFewStreams(t *testing.T) {
	k := mustNew(t, some(), true, []api.Op{raise}, nil, []api.Op{raise, raise})
	idles(t, k, 10)
	traces(t, k, 0, did(0, api.ErrRaised))
	traces(t, k, 2, did(1, api.ErrRaised), did(1, api.ErrRaised))
	for _, part := range []int{1, 3, 4} {
		traces(t, k, part)
	}
	k = mustNew(t, some(), true)
	idles(t, k, 10)
	for part := range 5 {
		traces(t, k, part)
	}
}

// nones are clusters that New did not make.
func nones(t *testing.T) map[string]*cluster.Cluster {
	t.Helper()
	k := mustNew(t, some(), true, []api.Op{raise, raise})
	steps(t, k, api.Choice{Babble: []api.Send{{Node: 1}}})
	taken := *k
	return map[string]*cluster.Cluster{"nil": nil, "zero": {}, "taken": &taken}
}

// Calls on none answer ErrNil, where they have an error; else zeros, nothing,
// and -1.
func TestNone(t *testing.T) {
	for name, k := range nones(t) {
		if err := k.Step(starts(1)); err != api.ErrNil {
			t.Errorf("%s: Step: %v", name, err)
		}
		for _, l := range [][]api.Choice{nil, make([]api.Choice, 3)} {
			if slot, err := k.Run(l); slot != 0 || err != api.ErrNil {
				t.Errorf("%s: Run: %d, %v", name, slot, err)
			}
		}
		for _, n := range append([]int{0, 1}, wild...) {
			is(t, k, n, seen{0, 0, -1, 0})
			traces(t, k, n)
			if k.Faults(n) != 0 {
				t.Errorf("%s: partition %d: %d faults", name, n, k.Faults(n))
			}
		}
		comes(t, k)
		if k.Slot() != 0 || k.Blocked() != 0 {
			t.Errorf("%s: slot %d, %d blocked", name, k.Slot(), k.Blocked())
		}
	}
}
