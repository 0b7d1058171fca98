package kern_test

import (
	"testing"

	"rota/api"
	"rota/config"
	"rota/kern"
)

// P5.1: a kernel of each node, with nothing in it.
func TestNew(t *testing.T) {
	c := some()
	for node := range c.Nodes {
		isNew(t, mustNew(t, c, node), c, node)
	}
}

// P5.1: no such node.
func TestNewOfNoNode(t *testing.T) {
	for _, node := range append([]int{4, 5, 16}, ends...) {
		if k, err := kern.New(some(), node); k != nil || err != api.ErrArg {
			t.Errorf("node %d: %v, %v", node, k, err)
		}
	}
}

// P5.1: config's errors, each of them, ahead of a node that there is not.
func TestNewOfWhatMayNotBe(t *testing.T) {
	for _, x := range []struct {
		turn func(c *api.Config)
		want api.Errno
	}{
		{func(c *api.Config) { *c = api.Config{} }, api.ErrNodes},
		{func(c *api.Config) { c.Nodes = 3 }, api.ErrNodes},
		{func(c *api.Config) { c.Owners[0] = 1 }, api.ErrNodes},
		{func(c *api.Config) { c.Quota = 0 }, api.ErrClock},
		{func(c *api.Config) { c.Quota = 17 }, api.ErrClock},
		{func(c *api.Config) { c.Parts[0].To = 5 }, api.ErrParts},
		{func(c *api.Config) { c.Parts[0].Node = -1 }, api.ErrParts},
		{func(c *api.Config) { c.Parts[4].To = 257 }, api.ErrParts},
		{func(c *api.Config) { c.Windows[0][0] = 2 }, api.ErrWindows},
		{func(c *api.Config) { c.Ports[0].Part = 5 }, api.ErrPorts},
		{func(c *api.Config) { c.Ports[7].Size = 0 }, api.ErrPorts},
		{func(c *api.Config) { c.Links[0].Dests = nil }, api.ErrLinks},
	} {
		c := some()
		x.turn(&c)
		if err := config.Check(c); err != x.want {
			t.Fatalf("Check: %v, not %v", err, x.want)
		}
		for _, node := range []int{0, 1, 3, 4, -1} {
			if k, err := kern.New(c, node); k != nil || err != x.want {
				t.Errorf("node %d: %v, %v, not %v", node, k, err, x.want)
			}
		}
	}
}

// P5.1: all of a configuration that is as great as may be.
func TestNewOfGreatest(t *testing.T) {
	c := some()
	c.Nodes, c.Owners, c.Windows, c.Parts, c.Ports, c.Links = 16, nil, nil, nil, nil, nil
	for n := range 16 {
		c.Owners = append(c.Owners, n)
		c.Windows = append(c.Windows, make([]int, 16))
		for s := range 16 {
			c.Windows[n][s] = -1
		}
	}
	for p := range 32 {
		c.Parts = append(c.Parts, api.Part{Node: 15, From: 8 * p, To: 8*p + 8})
		c.Ports = append(c.Ports,
			api.Port{Part: p, Kind: api.Queuing, Dir: api.Source, Size: 32, Depth: 8},
			api.Port{Part: p, Kind: api.Queuing, Dir: api.Dest, Size: 32, Depth: 8})
	}
	k := mustNew(t, c, 15)
	isNew(t, k, c, 15)
	for p := range 32 {
		runs(t, k, p, 0, fine(write(7, byte(p+1))), fine(send(2*p, make([]byte, 32)...)))
		arrives(t, k, 2*p+1, 0, api.OK, make([]byte, 32)...)
	}
	for p := range 32 {
		remembers(t, k, p, 0, 0, 0, 0, 0, 0, 0, byte(p+1))
		waits(t, k, 2*p, 1)
		waits(t, k, 2*p+1, 1)
	}
}

// P5.1: the configuration may be turned afterwards, also for a restart.
func TestNewKeepsNoConfig(t *testing.T) {
	c := some()
	k := mustNew(t, c, 0)
	for i := range c.Parts {
		c.Parts[i] = api.Part{Node: 3, From: 100, To: 200}
	}
	for i := range c.Ports {
		c.Ports[i] = api.Port{Part: 4, Kind: api.Queuing, Dir: api.Dest, Size: 9, Depth: 1}
	}
	for i := range c.Windows {
		c.Windows[i][0] = 1
	}
	c.Owners[0], c.Links[0].Dests[0], c.Links[0].Source = 9, 9, 9
	isNew(t, k, some(), 0)
	runs(t, k, 0, 0, fine(write(3, 9)), fine(send(0, 5)), refused(read(4), api.ErrFault))
	k.Restart()
	isNew(t, k, some(), 0)
	runs(t, k, 0, 0, fine(write(3, 9)), fine(send(0, 5)), refused(read(4), api.ErrFault))
}

// P5.1, P5.6: kernels of one configuration and node are apart.
func TestNewEachApart(t *testing.T) {
	c := some()
	k, other := mustNew(t, c, 0), mustNew(t, c, 0)
	runs(t, k, 0, 0, fine(write(0, 1)), fine(send(0, 1)), refused(raise, api.ErrRaised))
	arrives(t, k, 2, 0, api.OK, 1)
	isNew(t, other, c, 0)
}

// Types: calls on none, and on kernels that New did not make.
func TestNoKernel(t *testing.T) {
	had := mustNew(t, some(), 0)
	runs(t, had, 0, 0, fine(write(1, 5)), fine(send(0, 5)), refused(raise, api.ErrRaised))
	arrives(t, had, 2, 0, api.OK, 5)
	taken := *had
	for name, k := range map[string]*kern.Kernel{"nil": nil, "zero": {}, "new": new(kern.Kernel), "its fields": &taken} {
		for _, n := range append([]int{0, 1, 2, 3}, ends...) {
			if results, done := k.Run(n, 0, []api.Op{rest}); done != 0 || len(results) != 0 {
				t.Errorf("%s: run: %v, %d", name, results, done)
			}
			takesNone(t, k, n)
			arrives(t, k, n, 0, api.ErrNil, 5)
			arrives(t, k, n, -1, api.ErrNil)
			isAt(t, k, n, 0, false)
			remembers(t, k, n)
			waits(t, k, n, 0)
			if err := k.Restart(); err != api.ErrNil {
				t.Errorf("%s: restart: %v", name, err)
			}
		}
	}
	remembers(t, had, 0, 0, 5, 0, 0)
	isAt(t, had, 0, 1, false)
	takes(t, had, 0, 5)
	waits(t, had, 2, 1)
}
