package clock_test

import (
	"reflect"
	"testing"

	"rota/api"
	"rota/clock"
	"rota/config"
)

// P8.1: a clock with the offset 0, and no readings.
func TestNew(t *testing.T) {
	for _, c := range []api.Config{chapters(), some(), widest(), exact()} {
		k := mustNew(t, c)
		stands(t, k, 0)
		averagesNone(t, k, all, -1)
		for node := range 16 {
			averagesNone(t, k, 1<<node, -1)
		}
	}
}

// P8.1: config's errors, each of them, in its order.
func TestNewOfWhatMayNotBe(t *testing.T) {
	for _, x := range []struct {
		turn func(c *api.Config)
		want api.Errno
	}{
		{func(c *api.Config) { *c = api.Config{} }, api.ErrNodes},
		{func(c *api.Config) { *c = limited(3, 1, 1, 20, 20) }, api.ErrNodes},
		{func(c *api.Config) { *c = limited(17, 1, 1, 20, 20) }, api.ErrNodes},
		{func(c *api.Config) { c.Owners[0] = 0 }, api.ErrNodes},
		{func(c *api.Config) { c.Drift = -1 }, api.ErrClock},
		{func(c *api.Config) { c.Reading = 1<<20 + 1 }, api.ErrClock},
		{func(c *api.Config) { c.Margin = 43 }, api.ErrClock},
		{func(c *api.Config) { c.Bound = 43 }, api.ErrClock},
		{func(c *api.Config) { c.Parts = []api.Part{{Node: 5}} }, api.ErrParts},
		{func(c *api.Config) { c.Windows[3][3] = 0 }, api.ErrWindows},
		{func(c *api.Config) { c.Ports = []api.Port{{Part: 0}} }, api.ErrPorts},
		{func(c *api.Config) { c.Links = []api.Link{{Source: 0}} }, api.ErrLinks},
		{func(c *api.Config) { c.Links, c.Bound = []api.Link{{Source: 0}}, -1 }, api.ErrClock},
	} {
		c := some()
		x.turn(&c)
		if err := config.Check(c); err != x.want {
			t.Fatalf("Check: %v, not %v", err, x.want)
		}
		if k, err := clock.New(c); k != nil || err != x.want {
			t.Errorf("%v, %v, not %v", k, err, x.want)
		}
	}
}

// P8.1: each clock has its own limits, its own offset, its own readings.
func TestClocksApart(t *testing.T) {
	x, y, z := mustNew(t, chapters()), mustNew(t, some()), mustNew(t, chapters())
	drifts(t, x, 9, 1)
	drifts(t, y, 9, 3)
	stands(t, z, 0)
	hears(t, x, 1, 8)
	hears(t, y, 1, 80)
	averages(t, x, all, -1, 8)
	averages(t, y, all, -1, 80)
	averagesNone(t, z, all, -1)
	rounds(t, z, all, -1, 0)
	rounds(t, y, all, -1, 70)
	averages(t, x, all, -1, 8)
	stands(t, x, 1)
	stands(t, y, 73)
}

// P8.1 to P8.4: calls on none answer ErrNil, where they have an error, and
// else 0 and false. One that New did not make is none.
func TestNoClock(t *testing.T) {
	had := mustNew(t, some())
	sets(t, had, 5)
	hears(t, had, 1, 2)
	fields := new(clock.Clock)
	*fields = *had
	for _, k := range []*clock.Clock{nil, {}, new(clock.Clock), fields} {
		for _, n := range append([]int{0, 1, 4}, wild...) {
			if err := k.Set(n); err != api.ErrNil {
				t.Errorf("set: %v", err)
			}
			if err := k.Drift(n); err != api.ErrNil {
				t.Errorf("drift: %v", err)
			}
			if err := k.Hear(n, n); err != api.ErrNil {
				t.Errorf("hear: %v", err)
			}
			if m, err := k.Round(all, n); m != 0 || err != api.ErrNil {
				t.Errorf("round: %v, %v", m, err)
			}
			stands(t, k, 0)
			reads(t, k, n, 1, 0)
			fits(t, k, n, false)
			averagesNone(t, k, all, n)
		}
	}
	stands(t, had, 5)
	averages(t, had, all, -1, 2)
}

// The configuration is only read, the room behind its lists too, and is not
// kept.
func TestConfigIsNotKept(t *testing.T) {
	c := some()
	c.Owners = append(c.Owners, -77)[:5]
	k := mustNew(t, c)
	if !reflect.DeepEqual(c, some()) || c.Owners[:6][5] != -77 {
		t.Errorf("%v", c)
	}
	clear(c.Owners)
	clear(c.Windows)
	c.Nodes, c.Drift, c.Reading, c.Margin, c.Bound = 0, 0, 0, 0, 0
	drifts(t, k, 9, 3)
	reads(t, k, 3, 9, 6)
	fits(t, k, 90, true)
	hearsAll(t, k, 80, 80, 80, 80, 80)
	rounds(t, k, all, -1, 70)
	stands(t, k, 73)
}
