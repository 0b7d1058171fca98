package cluster

import (
	"bytes"

	"rota/api"
)

// program is what a partition is to do, and what that has come to.
type program struct {
	node  int
	rest  []api.Op // those of its operations that were not used yet
	used  int
	trace []api.Result
}

// programsOf are all partitions'. One of which no stream is handed in has
// nothing to do.
func programsOf(c api.Config, streams [][]api.Op) []*program {
	var all []*program
	for part, p := range c.Parts {
		var stream []api.Op
		if part < len(streams) {
			stream = copied(streams[part], ownOp)
		}
		all = append(all, &program{node: p.Node, rest: stream})
	}
	return all
}

// note takes what the first of its operations came to, and how many these were.
func (p *program) note(results []api.Result, used int) {
	p.trace = append(p.trace, results...)
	p.rest = p.rest[used:]
	p.used += used
}

// copied is a list of the same, each of them made one that shares no memory.
func copied[T any](l []T, own func(T) T) []T {
	var all []T
	for _, x := range l {
		all = append(all, own(x))
	}
	return all
}

func ownOp(op api.Op) api.Op {
	op.Data = bytes.Clone(op.Data)
	return op
}

func ownResult(r api.Result) api.Result {
	r.Data = bytes.Clone(r.Data)
	return r
}

func ownDelivery(d api.Delivery) api.Delivery {
	d.Data = bytes.Clone(d.Data)
	return d
}
