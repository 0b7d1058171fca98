package config_test

import (
	"math/rand"
	"reflect"
	"testing"

	"rota/api"
	"rota/config"
)

// spread tells what reaches what by going over all links until nothing more
// is found.
func spread(c api.Config) [][]bool {
	l := make([][]bool, len(c.Parts))
	for p := range l {
		l[p] = make([]bool, len(c.Parts))
		l[p][p] = true
	}
	has := func(port int) bool {
		return port >= 0 && port < len(c.Ports) && c.Ports[port].Part >= 0 && c.Ports[port].Part < len(c.Parts)
	}
	counts := func(k api.Link) bool {
		for _, d := range k.Dests {
			if !has(d) {
				return false
			}
		}
		return has(k.Source)
	}
	for more := true; more; {
		more = false
		for p := range l {
			for _, k := range c.Links {
				if !counts(k) || !l[p][c.Ports[k.Source].Part] {
					continue
				}
				for _, d := range k.Dests {
					if q := c.Ports[d].Part; !l[p][q] {
						l[p][q] = true
						more = true
					}
				}
			}
		}
	}
	return l
}

// ported has n partitions, partition p with the port of number p.
func ported(n int) api.Config {
	var c api.Config
	for p := range n {
		c.Parts = append(c.Parts, api.Part{})
		c.Ports = append(c.Ports, api.Port{Part: p})
	}
	return c
}

// reaches tells the numbers of what each partition reaches.
func reaches(c api.Config) [][]int {
	l := [][]int{}
	for _, row := range config.Reach(c) {
		l = append(l, []int{})
		for q, yes := range row {
			if yes {
				l[len(l)-1] = append(l[len(l)-1], q)
			}
		}
	}
	return l
}

// P2.4: chains, rings, and several at once.
func TestReach(t *testing.T) {
	for name, x := range map[string]struct {
		parts int
		links []api.Link
		want  [][]int
	}{
		"none":         {0, nil, [][]int{}},
		"no links":     {3, nil, [][]int{{0}, {1}, {2}}},
		"one":          {3, []api.Link{link(0, 0, 2)}, [][]int{{0, 2}, {1}, {2}}},
		"back":         {3, []api.Link{link(2, 0, 0)}, [][]int{{0}, {1}, {0, 2}}},
		"itself":       {2, []api.Link{link(1, 0, 1)}, [][]int{{0}, {1}}},
		"chain":        {4, []api.Link{link(0, 0, 1), link(1, 0, 2), link(2, 0, 3)}, [][]int{{0, 1, 2, 3}, {1, 2, 3}, {2, 3}, {3}}},
		"chain turned": {4, []api.Link{link(2, 0, 3), link(1, 0, 2), link(0, 0, 1)}, [][]int{{0, 1, 2, 3}, {1, 2, 3}, {2, 3}, {3}}},
		"ring":         {3, []api.Link{link(0, 0, 1), link(1, 0, 2), link(2, 0, 0)}, [][]int{{0, 1, 2}, {0, 1, 2}, {0, 1, 2}}},
		"several":      {4, []api.Link{link(3, 0, 0, 2, 0)}, [][]int{{0}, {1}, {2}, {0, 2, 3}}},
		"two of one":   {4, []api.Link{link(1, 0, 0), link(1, 0, 3)}, [][]int{{0}, {0, 1, 3}, {2}, {3}}},
		"no Dests":     {2, []api.Link{link(0, 0), link(1, 0)}, [][]int{{0}, {1}}},
		"Source -1":    {2, []api.Link{link(-1, 0, 1)}, [][]int{{0}, {1}}},
		"Source 2":     {2, []api.Link{link(2, 0, 1)}, [][]int{{0}, {1}}},
		"Dest -1":      {2, []api.Link{link(0, 0, 1, -1)}, [][]int{{0}, {1}}},
		"Dest 2":       {2, []api.Link{link(0, 0, 1, 2)}, [][]int{{0}, {1}}},
		"Dest 2 first": {2, []api.Link{link(0, 0, 2, 1)}, [][]int{{0}, {1}}},
		"some are":     {3, []api.Link{link(0, 0, 9, 1), link(0, 0, 2)}, [][]int{{0, 2}, {1}, {2}}},
	} {
		c := ported(x.parts)
		c.Links = x.links
		if l := reaches(c); !reflect.DeepEqual(l, x.want) {
			t.Errorf("%s: %v, not %v", name, l, x.want)
		}
	}
}

// P2.4: a link counts for nothing, if a port's Part of it is no partition's.
func TestReachOfPortsOfNobody(t *testing.T) {
	for _, nobody := range []int{-1, 3, 1 << 40, -1 << 63} {
		for port := range 3 {
			c := ported(3)
			c.Links = []api.Link{link(0, 0, 1, 2)}
			c.Ports[port].Part = nobody
			if l := reaches(c); !reflect.DeepEqual(l, [][]int{{0}, {1}, {2}}) {
				t.Errorf("port %d of %d: %v", port, nobody, l)
			}
		}
	}
}

// P2.4: nothing but the parts, the ports' Parts and the links' ends is looked
// at: of full these are told.
func TestReachOfFull(t *testing.T) {
	c := full()
	want := [][]int{{0, 2, 3}, {1, 4}, {0, 2, 3}, {3}, {4}}
	if l := reaches(c); !reflect.DeepEqual(l, want) {
		t.Errorf("%v", l)
	}
	for i := range c.Ports {
		c.Ports[i] = api.Port{Part: c.Ports[i].Part, Kind: -5, Dir: 3, Size: 1 << 40}
	}
	for i := range c.Links {
		c.Links[i].Offset = -1
	}
	c.Nodes, c.Owners, c.Windows = -1, nil, nil
	if l := reaches(c); !reflect.DeepEqual(l, want) {
		t.Errorf("of others: %v", l)
	}
}

// P2.4: of configurations of all kinds; none answered is nil where there are
// partitions.
func TestReachOfAll(t *testing.T) {
	r := rand.New(rand.NewSource(5))
	l := samples()
	for range 500 {
		c := ported(1 + r.Intn(12))
		for i := range c.Ports {
			c.Ports[i].Part = r.Intn(len(c.Parts)+2) - 1
		}
		for range r.Intn(12) {
			k := api.Link{Source: r.Intn(len(c.Ports)+1) - r.Intn(10)/9}
			for range r.Intn(4) {
				k.Dests = append(k.Dests, r.Intn(len(c.Ports)))
			}
			c.Links = append(c.Links, k)
		}
		l = append(l, c)
	}
	for _, c := range l {
		if got, want := config.Reach(c), spread(c); len(got)+len(want) > 0 && !reflect.DeepEqual(got, want) {
			t.Errorf("%v: %v, not %v", c, got, want)
		}
	}
}

// P2.4: as many partitions and links as lists may have ends too.
func TestReachOfMany(t *testing.T) {
	c := ported(1500)
	for p := range c.Parts {
		c.Links = append(c.Links, api.Link{Source: p, Dests: []int{(p + 1) % 1500, (p + 7) % 1500}})
	}
	for p, row := range config.Reach(c) {
		for q, yes := range row {
			if !yes {
				t.Fatalf("%d does not reach %d", p, q)
			}
		}
	}
	if n := len(config.Reach(withList("Links", 65535))); n != 0 {
		t.Error(n)
	}
}

// P2.6: who reaches a partition reaches what that one reaches.
func TestReachGoesOn(t *testing.T) {
	for _, c := range samples() {
		l := config.Reach(c)
		for p := range l {
			for q := range l {
				for s := range l {
					if l[p][q] && l[q][s] && !l[p][s] {
						t.Fatalf("%v: %d, %d, %d", c, p, q, s)
					}
				}
			}
		}
	}
}

// P2.5: each row is a list of its own, and new each time.
func TestReachIsNew(t *testing.T) {
	c := full()
	first, second := config.Reach(c), config.Reach(c)
	for p := range first {
		row := append(first[p], true, true, true, true, true, true)
		for i := range row {
			row[i] = true
		}
		whole := first[p][:cap(first[p])]
		for i := range whole {
			whole[i] = true
		}
		for q := p + 1; q < len(first); q++ {
			if !reflect.DeepEqual(first[q], second[q]) {
				t.Fatalf("row %d was turned by row %d", q, p)
			}
		}
	}
	if !reflect.DeepEqual(second, spread(c)) || !reflect.DeepEqual(config.Reach(c), spread(c)) {
		t.Error("another answer was turned")
	}
}
