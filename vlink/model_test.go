package vlink_test

import (
	"math/rand"
	"slices"
	"testing"

	"rota/api"
	"rota/config"
)

// anyConfig may be, and has links by chance: as many as went in.
func anyConfig(r *rand.Rand) api.Config {
	c := bare(api.MinNodes + r.Intn(api.MaxNodes-api.MinNodes+1))
	c.Owners = r.Perm(c.Nodes)
	for range 1 + r.Intn(12) {
		c.Parts = append(c.Parts, api.Part{Node: r.Intn(c.Nodes)})
	}
	for range r.Intn(40) {
		if d := withLink(r, c); config.Check(d) == api.OK {
			c = d
		}
	}
	return c
}

// withLink is c with one link more, and its ports; c stays as it is. It need
// not be one that may be.
func withLink(r *rand.Rand, c api.Config) api.Config {
	c.Ports, c.Links = slices.Clone(c.Ports), slices.Clone(c.Links)
	kind, size := 1+r.Intn(2), []int{1, 1, 2, 3, 8, 31, 32}[r.Intn(7)]
	ports := []api.Port{source(r.Intn(len(c.Parts)), kind, size)}
	for range 1 + r.Intn(4) {
		ports = append(ports, dest(r.Intn(len(c.Parts)), kind, size))
	}
	l := api.Link{Offset: r.Intn(api.Payload - size)}
	for _, at := range r.Perm(len(ports)) {
		if at == 0 {
			l.Source = len(c.Ports)
		} else {
			l.Dests = append(l.Dests, len(c.Ports))
		}
		c.Ports = append(c.Ports, ports[at])
	}
	r.Shuffle(len(l.Dests), func(i, j int) { l.Dests[i], l.Dests[j] = l.Dests[j], l.Dests[i] })
	c.Links = slices.Insert(c.Links, r.Intn(len(c.Links)+1), l)
	return c
}

// P6.1 to P6.3: configurations and messages by chance are answered as the
// chapter's words have it.
func TestByChance(t *testing.T) {
	r := rand.New(rand.NewSource(6))
	links, messages := 0, 0
	for range 500 {
		c := anyConfig(r)
		links += len(c.Links)
		all, p := anyMessages(r, c), anyPayload(r)
		for node := range c.Nodes {
			packs(t, c, node, handing(all), packed(c, node, all))
			unpacks(t, c, node, p, unpacked(c, node, p)...)
			for other := range c.Nodes {
				want := delivered(c, node, other, 9, p)
				messages += len(want)
				delivers(t, c, node, other, 9, p, want...)
			}
		}
	}
	if links < 500 || messages < 500 {
		t.Errorf("just %d links, %d messages", links, messages)
	}
}

func packed(c api.Config, node int, all map[int][]byte) payload {
	var p payload
	for _, l := range c.Links {
		from := c.Ports[l.Source]
		data, ok := all[l.Source]
		if c.Parts[from.Part].Node == node && ok && len(data) == from.Size {
			p = with(p, l.Offset, data...)
		}
	}
	return p
}

func unpacked(c api.Config, owner int, p payload) []api.Arrival {
	var all []api.Arrival
	for n, l := range c.Links {
		from := c.Ports[l.Source]
		switch {
		case c.Parts[from.Part].Node != owner:
		case p[l.Offset] == 1:
			all = append(all, came(n, p[l.Offset+1:l.Offset+1+from.Size]...))
		default:
			all = append(all, none(n))
		}
	}
	return all
}

func delivered(c api.Config, owner, node, slot int, p payload) []arrival {
	var all []arrival
	for _, a := range unpacked(c, owner, p) {
		for _, d := range c.Links[a.Link].Dests {
			if a.Valid && c.Parts[c.Ports[d].Part].Node == node {
				all = append(all, arrival{d, a.Data, slot})
			}
		}
	}
	return all
}
