package plan

import "rota/api"

// maxFresh is for how many slots a message is fresh at most.
const maxFresh = 65535

// May says whether a demand may be. It need not have a plan, then.
func May(d api.Demand) bool {
	return numbersMay(d) && tasksMay(d) && streamsMay(d)
}

func numbersMay(d api.Demand) bool {
	return within(d.Nodes, api.MinNodes, api.MaxNodes) &&
		within(d.Drift, 0, api.MaxMicro) && within(d.Reading, 0, api.MaxMicro) &&
		within(d.Rejoin, 1, api.MaxRejoin) && within(d.Quota, 1, api.MaxQuota)
}

func tasksMay(d api.Demand) bool {
	if len(d.Tasks) > api.MaxParts {
		return false
	}
	for _, t := range d.Tasks {
		if !isOne(t.Node, d.Nodes) || !within(t.Memory, 0, api.Memory) || !within(t.Share, 0, d.Nodes) {
			return false
		}
	}
	return true
}

func streamsMay(d api.Demand) bool {
	if len(d.Streams) > api.MaxLinks {
		return false
	}
	ports := 0
	for _, s := range d.Streams {
		if !streamMay(s, len(d.Tasks)) {
			return false
		}
		ports += 1 + len(s.To)
	}
	return ports <= api.MaxPorts
}

func streamMay(s api.Stream, tasks int) bool {
	return isOne(s.From, tasks) && toMay(s.To, tasks) && within(s.Size, 1, api.MaxSize) && kindMay(s)
}

// toMay says whether there are some, all tasks' numbers, rising, each once.
func toMay(to []int, tasks int) bool {
	last := -1
	for _, t := range to {
		if t <= last || t >= tasks {
			return false
		}
		last = t
	}
	return len(to) > 0
}

func kindMay(s api.Stream) bool {
	switch s.Kind {
	case api.Sampling:
		return s.Depth == 0 && within(s.Fresh, 1, maxFresh)
	case api.Queuing:
		return within(s.Depth, 1, api.MaxDepth) && s.Fresh == 0
	}
	return false
}

func within(n, least, most int) bool { return least <= n && n <= most }

// isOne says whether n is the number of one of so many.
func isOne(n, many int) bool { return 0 <= n && n < many }
