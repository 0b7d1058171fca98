package vlink

import (
	"bytes"
	"iter"

	"rota/api"
)

// laid stands at a link's place ahead of a message.
const laid = 1

// link is all that a configuration says of one. It shares nothing with it.
type link struct {
	number int
	source int
	offset int
	size   int
	dests  []dest
}

// dest is a port that a link goes to, and the node that has it.
type dest struct{ port, node int }

// linksOf tells a node's links, in order, as they are when it is called: a
// function that is asked or handed to while they are gone through may change
// the configuration's lists. The configuration is one that may be.
func linksOf(c api.Config, node int) iter.Seq[link] {
	var own []link
	for n, l := range c.Links {
		if nodeOf(c, l.Source) == node {
			own = append(own, linkOf(c, n))
		}
	}
	return func(yield func(link) bool) {
		for _, l := range own {
			if !yield(l) {
				return
			}
		}
	}
}

func linkOf(c api.Config, number int) link {
	from := c.Links[number]
	l := link{number: number, source: from.Source, offset: from.Offset, size: c.Ports[from.Source].Size}
	for _, d := range from.Dests {
		l.dests = append(l.dests, dest{port: d, node: nodeOf(c, d)})
	}
	return l
}

// nodeOf is the node that has a port.
func nodeOf(c api.Config, port int) int { return c.Parts[c.Ports[port].Part].Node }

// lay lays a message of the link in its place.
func (l link) lay(p *[api.Payload]byte, message []byte) {
	p[l.offset] = laid
	copy(l.room(p), message)
}

// message is a copy of what was laid in the link's place; false, if none was.
func (l link) message(p *[api.Payload]byte) ([]byte, bool) {
	if p[l.offset] != laid {
		return nil, false
	}
	return bytes.Clone(l.room(p)), true
}

// room is where the bytes of a message stand.
func (l link) room(p *[api.Payload]byte) []byte {
	from := l.offset + 1
	return p[from : from+l.size]
}
