package timing

import (
	"iter"

	"rota/api"
	"rota/config"
)

// What follows is of configurations that may be, and of what is there in them.

// slots tells slots from one on, without an end.
func slots(from int) iter.Seq[int] {
	return func(yield func(int) bool) {
		for slot := from; yield(slot); slot++ {
		}
	}
}

// first is the first slot, from one on, that fits; false, if none does.
func first(c api.Config, from int, fits func(slot int) bool) (int, bool) {
	last := from + c.Nodes - 1
search:
	for slot := range slots(from) {
		switch {
		case fits(slot):
			return slot, true
		case slot == last:
			// What a round has not, does not come at all.
			break search
		}
	}
	return 0, false
}

// runs is the first slot, from one on, in which a partition does; false, if it never does.
func runs(c api.Config, part, from int) (int, bool) {
	row := rowOf(c, part)
	return first(c, from, func(slot int) bool { return row[slot%c.Nodes] == part })
}

// sends is the first slot, from one on, in which a node does.
func sends(c api.Config, node, from int) int {
	// There is one: each node has its turn in each round.
	slot, _ := first(c, from, func(slot int) bool { return config.Owner(c, slot) == node })
	return slot
}

// windows tells the slots of the first round in which a partition runs.
func windows(c api.Config, part int) iter.Seq[int] {
	return func(yield func(int) bool) {
		for slot, given := range rowOf(c, part) {
			if given == part && !yield(slot) {
				return
			}
		}
	}
}

// rowOf are the windows of a partition's node.
func rowOf(c api.Config, part int) []int { return c.Windows[c.Parts[part].Node] }

// longest is the longest of the times from slots in which a partition runs; false, if it
// never does, or one of them is none.
func longest(c api.Config, part int, time func(slot int) (int, bool)) (int, bool) {
	most := 0
	for slot := range windows(c, part) {
		n, is := time(slot)
		if !is {
			return 0, false
		}
		most = max(most, n)
	}
	// Each time is of one slot at least.
	return most, most > 0
}

// way is what a link's messages to one of its Dests go: from a partition, by its node's
// slots, to a partition.
type way struct{ from, by, to int }

func wayOf(c api.Config, link, dest int) way {
	l := c.Links[link]
	from := c.Ports[l.Source].Part
	return way{from: from, by: c.Parts[from].Node, to: c.Ports[l.Dests[dest]].Part}
}

// gets is the slot in which is got what is sent in one; false, if that is never.
func (w way) gets(c api.Config, slot int) (int, bool) {
	// In a slot windows come first: who runs in that of the sending is too early.
	return runs(c, w.to, sends(c, w.by, slot)+1)
}

// delay is how long it is until what is sent in a slot is got; false, if it never is.
func (w way) delay(c api.Config, slot int) (int, bool) {
	got, is := w.gets(c, slot)
	return got - slot, is
}

// goes is the slot in which is got what is sent in the first window from a slot on;
// false, if that is never.
func (w way) goes(c api.Config, slot int) (int, bool) {
	sent, is := runs(c, w.from, slot)
	if !is {
		return 0, false
	}
	return w.gets(c, sent)
}
