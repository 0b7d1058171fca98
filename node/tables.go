package node

import (
	"slices"

	"rota/api"
)

// copied is a configuration that shares no list with c.
func copied(c api.Config) api.Config {
	c.Owners = slices.Clone(c.Owners)
	c.Parts = slices.Clone(c.Parts)
	c.Ports = slices.Clone(c.Ports)
	c.Windows = slices.Clone(c.Windows)
	for i, row := range c.Windows {
		c.Windows[i] = slices.Clone(row)
	}
	c.Links = slices.Clone(c.Links)
	for i, l := range c.Links {
		c.Links[i].Dests = slices.Clone(l.Dests)
	}
	return c
}

// linkTo is the number of the link that goes to a port: a port stands in no
// more than one.
func linkTo(c api.Config, port int) int {
	return slices.IndexFunc(c.Links, func(l api.Link) bool { return slices.Contains(l.Dests, port) })
}
