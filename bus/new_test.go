package bus_test

import (
	"reflect"
	"testing"

	"rota/api"
	"rota/bus"
	"rota/config"
)

// P7.1: a bus that has counted nothing; asking does not count.
func TestNew(t *testing.T) {
	for _, c := range []api.Config{chapters(), some(), widest(), bare(4, 3, 2, 1, 0)} {
		b := mustNew(t, c)
		counts(t, b, 0, 0)
		counts(t, b, 0, 0)
	}
}

// P7.1: config's errors, each of them.
func TestNewOfWhatMayNotBe(t *testing.T) {
	for _, x := range []struct {
		turn func(c *api.Config)
		want api.Errno
	}{
		{func(c *api.Config) { *c = api.Config{} }, api.ErrNodes},
		{func(c *api.Config) { *c = bare(0, 1, 2) }, api.ErrNodes},
		{func(c *api.Config) { *c = bare(0, 1, 2, 2) }, api.ErrNodes},
		{func(c *api.Config) { c.Nodes = 5 }, api.ErrNodes},
		{func(c *api.Config) { c.Owners = append(c.Owners, 0) }, api.ErrNodes},
		{func(c *api.Config) { c.Quota = 0 }, api.ErrClock},
		{func(c *api.Config) { c.Parts = []api.Part{{Node: 4}} }, api.ErrParts},
		{func(c *api.Config) { c.Windows[3][3] = 0 }, api.ErrWindows},
		{func(c *api.Config) { c.Ports = []api.Port{{Part: 0}} }, api.ErrPorts},
		{func(c *api.Config) { c.Links = []api.Link{{Source: 0}} }, api.ErrLinks},
		{func(c *api.Config) { c.Links, c.Quota = []api.Link{{Source: 0}}, 0 }, api.ErrClock},
	} {
		c := some()
		x.turn(&c)
		if err := config.Check(c); err != x.want {
			t.Fatalf("Check: %v, not %v", err, x.want)
		}
		if b, err := bus.New(c); b != nil || err != x.want {
			t.Errorf("%v, %v, not %v", b, err, x.want)
		}
	}
}

// P7.1: each bus has its own configuration, and its own counts.
func TestBusesApart(t *testing.T) {
	x, y := mustNew(t, some()), mustNew(t, chapters())
	l := sends(send(2, 7), send(1, 8), send(1, 9))
	passes(t, x, 0, l, 7)
	counts(t, x, 1, 2)
	counts(t, y, 0, 0)
	passesNone(t, y, 0, l...)
	passes(t, y, 1, l, 8)
	counts(t, x, 1, 2)
	counts(t, y, 1, 5)
}

// P7.2, P7.3: of none nothing passes, nothing is counted, and ErrNil comes
// ahead of what is wrong besides. One that New did not make is none.
func TestNoBus(t *testing.T) {
	had := mustNew(t, chapters())
	passes(t, had, 0, sends(send(0, 1), send(0, 1)), 1)
	fields := new(bus.Bus)
	reflect.ValueOf(fields).Elem().Set(reflect.ValueOf(had).Elem())
	for _, b := range []*bus.Bus{nil, {}, new(bus.Bus), fields} {
		for _, slot := range append([]int{0, 1, 5}, ends...) {
			for _, l := range [][]api.Send{nil, {}, {send(0, 1)}, {send(-1, 1), send(0, 1), send(1, 2), send(0, 3)}} {
				passesNone(t, b, slot, l...)
				refuses(t, b, slot, l, nil, api.ErrNil)
				refuses(t, b, slot, l, copies(lost, fine), api.ErrNil)
				counts(t, b, 0, 0)
			}
		}
	}
	counts(t, had, 1, 1)
}
