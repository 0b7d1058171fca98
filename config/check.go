package config

import (
	"iter"
	"slices"

	"rota/api"
)

const (
	maxBound = 1 << 24 // of Margin and of Bound
	maxFresh = 65535
)

// none stands in a window in which no partition runs.
const none = -1

// bounds are the least and the greatest that a number may be.
type bounds struct{ least, most int }

// depthOf is by a port's Kind.
var depthOf = [...]bounds{
	api.Sampling: {0, 0},
	api.Queuing:  {1, api.MaxDepth},
}

// freshOf is by a port's Kind and Dir.
var freshOf = [...][3]bounds{
	api.Sampling: {api.Source: {0, 0}, api.Dest: {1, maxFresh}},
	api.Queuing:  {api.Source: {0, 0}, api.Dest: {0, 0}},
}

// rule is what one part of a configuration must keep to, and the error else.
type rule struct {
	err  api.Errno
	kept func(api.Config) bool
}

// rules stand in the order of their errors. Each may lean on those ahead of
// it: it is asked only where they are kept.
func rules() [6]rule {
	return [...]rule{
		{api.ErrNodes, nodesKept},
		{api.ErrClock, clockKept},
		{api.ErrParts, partsKept},
		{api.ErrWindows, windowsKept},
		{api.ErrPorts, portsKept},
		{api.ErrLinks, linksKept},
	}
}

// Check is OK, if the configuration may be; else its error.
func Check(c api.Config) api.Errno {
	for _, r := range rules() {
		if !r.kept(c) {
			return r.err
		}
	}
	return api.OK
}

func nodesKept(c api.Config) bool {
	if !within(c.Nodes, bounds{api.MinNodes, api.MaxNodes}) || len(c.Owners) != c.Nodes {
		return false
	}
	for node := range c.Nodes {
		if !slices.Contains(c.Owners, node) {
			return false
		}
	}
	return true
}

func clockKept(c api.Config) bool {
	micro := bounds{0, api.MaxMicro}
	if !within(c.Drift, micro) || !within(c.Reading, micro) {
		return false
	}
	apart := bounds{2*Precision(c) + c.Reading, maxBound}
	return within(c.Margin, apart) && within(c.Bound, apart) &&
		within(c.Rejoin, bounds{1, api.MaxRejoin}) && within(c.Quota, bounds{1, api.MaxQuota})
}

func partsKept(c api.Config) bool {
	if len(c.Parts) > api.MaxParts {
		return false
	}
	regions := make([][]api.Span, c.Nodes)
	for _, p := range c.Parts {
		if !isOf(regions, p.Node) || p.From < 0 || p.From > p.To || p.To > api.Memory {
			return false
		}
		regions[p.Node] = append(regions[p.Node], api.Span{From: p.From, To: p.To})
	}
	return !someMeet(regions)
}

func windowsKept(c api.Config) bool {
	if len(c.Windows) != c.Nodes {
		return false
	}
	for node, row := range c.Windows {
		if len(row) != c.Nodes {
			return false
		}
		for _, p := range row {
			if p != none && (!isOf(c.Parts, p) || c.Parts[p].Node != node) {
				return false
			}
		}
	}
	return true
}

func portsKept(c api.Config) bool {
	if len(c.Ports) > api.MaxPorts {
		return false
	}
	for _, p := range c.Ports {
		if !isOf(c.Parts, p.Part) || !portKept(p) {
			return false
		}
	}
	return true
}

func portKept(p api.Port) bool {
	if p.Kind != api.Sampling && p.Kind != api.Queuing || p.Dir != api.Source && p.Dir != api.Dest {
		return false
	}
	return within(p.Size, bounds{1, api.MaxSize}) &&
		within(p.Depth, depthOf[p.Kind]) && within(p.Fresh, freshOf[p.Kind][p.Dir])
}

func linksKept(c api.Config) bool {
	if len(c.Links) > api.MaxLinks {
		return false
	}
	stands := make([]bool, len(c.Ports))
	places := make([][]api.Span, c.Nodes)
	for _, l := range c.Links {
		if !linkKept(c, l) || !standFirst(stands, l) {
			return false
		}
		source := c.Ports[l.Source]
		node := c.Parts[source.Part].Node
		places[node] = append(places[node], api.Span{From: l.Offset, To: l.Offset + taken(source)})
	}
	return !someMeet(places)
}

func linkKept(c api.Config, l api.Link) bool {
	if !isOf(c.Ports, l.Source) || c.Ports[l.Source].Dir != api.Source || len(l.Dests) == 0 {
		return false
	}
	source := c.Ports[l.Source]
	for _, d := range l.Dests {
		if !isOf(c.Ports, d) || c.Ports[d].Dir != api.Dest ||
			c.Ports[d].Kind != source.Kind || c.Ports[d].Size != source.Size {
			return false
		}
	}
	// Offset may be so great that its place's end would go round.
	return within(l.Offset, bounds{0, api.Payload - taken(source)})
}

// taken is how many bytes of the payload a link takes: a byte that says
// whether there is a message, and the message.
func taken(source api.Port) int { return 1 + source.Size }

// standFirst notes the ports of a link, and says whether none of them had been
// noted before.
func standFirst(stands []bool, l api.Link) bool {
	if stands[l.Source] {
		return false
	}
	stands[l.Source] = true
	for _, d := range l.Dests {
		if stands[d] {
			return false
		}
		stands[d] = true
	}
	return true
}

// someMeet says whether two spans of one and the same list meet.
func someMeet(lists [][]api.Span) bool {
	found := false
search:
	for _, l := range lists {
		for a, b := range pairs(l) {
			if max(a.From, b.From) < min(a.To, b.To) {
				found = true
				break search
			}
		}
	}
	return found
}

// pairs tells each two of a list.
func pairs[T any](l []T) iter.Seq2[T, T] {
	return func(yield func(T, T) bool) {
		for i, b := range l {
			for _, a := range l[:i] {
				if !yield(a, b) {
					return
				}
			}
		}
	}
}

func within(n int, b bounds) bool { return b.least <= n && n <= b.most }

// isOf says whether n is the number of something in a list.
func isOf[T any](l []T, n int) bool { return 0 <= n && n < len(l) }
