package plan

import (
	"iter"

	"rota/api"
	"rota/place"
)

// none stands in a window in which no partition runs.
const none = -1

// What follows lays a part of a plan, of a demand that may be: regions, rows of windows,
// and ports with their links. It is false, where there is no room for all of it.

// regions are the partitions, on each node one behind the other.
func regions(d api.Demand) ([]api.Part, bool) {
	end := make([]int, d.Nodes)
	var parts []api.Part
	for _, t := range d.Tasks {
		from := end[t.Node]
		to := from + t.Memory
		if to > api.Memory {
			return nil, false
		}
		parts = append(parts, api.Part{Node: t.Node, From: from, To: to})
		end[t.Node] = to
	}
	return parts, true
}

// rows are the windows, a row a node.
func rows(d api.Demand) ([][]int, bool) {
	windows := make([][]int, d.Nodes)
	for node := range windows {
		for range d.Nodes {
			windows[node] = append(windows[node], none)
		}
	}
	for task, t := range d.Tasks {
		if !give(windows[t.Node], task, t.Share) {
			return nil, false
		}
	}
	return windows, true
}

// give gives a task the first slots of a row that are not given yet; false, if there
// are too few.
func give(row []int, task, share int) bool {
shares:
	for range share {
		for slot, given := range row {
			if given == none {
				row[slot] = task
				continue shares
			}
		}
		return false
	}
	return true
}

// joined are the ports and links of all streams.
func joined(d api.Demand) ([]api.Port, []api.Link, bool) {
	var ports []api.Port
	var links []api.Link
	payloads := make([][]api.Span, d.Nodes)
	for s, link := range streams(d) {
		payload := &payloads[d.Tasks[s.From].Node]
		at, fits := place.First(*payload, taken(s), 1, api.Payload)
		if !fits {
			return nil, nil, false
		}
		*payload = append(*payload, api.Span{From: at, To: at + taken(s)})
		link.Offset = at
		ports = append(ports, portsOf(s)...)
		links = append(links, link)
	}
	return ports, links, true
}

// streams tells each stream with a link that joins its ports by their numbers, and has
// no place yet.
func streams(d api.Demand) iter.Seq2[api.Stream, api.Link] {
	return func(yield func(api.Stream, api.Link) bool) {
		port := 0
		for _, s := range d.Streams {
			link := api.Link{Source: port}
			port++
			for range s.To {
				link.Dests = append(link.Dests, port)
				port++
			}
			if !yield(s, link) {
				return
			}
		}
	}
}

// portsOf are a stream's ports, in the order of their numbers.
func portsOf(s api.Stream) []api.Port {
	ports := []api.Port{{Part: s.From, Kind: s.Kind, Dir: api.Source, Size: s.Size, Depth: s.Depth}}
	for _, t := range s.To {
		ports = append(ports, api.Port{Part: t, Kind: s.Kind, Dir: api.Dest, Size: s.Size, Depth: s.Depth, Fresh: s.Fresh})
	}
	return ports
}

// taken is how many bytes of the payload a stream takes: a byte that says whether
// there is a message, and the message.
func taken(s api.Stream) int { return 1 + s.Size }
