package cluster

import (
	"slices"

	"rota/api"
	"rota/config"
)

// none stands in a window in which no partition runs.
const none = -1

// pass goes through a slot.
func (k *Cluster) pass(x api.Choice) {
	defer k.end()
	k.start(x)
	k.drift(x)
	k.runWindows()
	k.talk(x)
}

// end ends the slot, at each node.
func (k *Cluster) end() {
	for _, n := range k.nodes {
		n.End(k.slot)
	}
	k.slot++
}

// start starts nodes anew.
func (k *Cluster) start(x api.Choice) {
	for id, n := range k.nodes {
		if x.Restart>>id&1 == 0 {
			continue
		}
		if err := n.Start(nth(x.Offsets, id)); err != api.OK {
			n.Start(0)
		}
	}
}

// drift lets all clocks drift, once in a round.
func (k *Cluster) drift(x api.Choice) {
	if k.place() != 0 {
		return
	}
	for id, n := range k.nodes {
		n.Drift(nth(x.Drift, id))
	}
}

// runWindows lets on each node the partition run whose window it is. A node
// that is off runs none.
func (k *Cluster) runWindows() {
	for id, n := range k.nodes {
		part := k.tables.Windows[id][k.place()]
		if part == none {
			continue
		}
		p := k.programs[part]
		p.note(n.Window(part, k.slot, p.rest))
	}
}

// talk lets the owner send, and all others hear what the bus makes of it.
func (k *Cluster) talk(x api.Choice) {
	owner := config.Owner(k.tables, k.slot)
	offset := k.nodes[owner].Offset()
	// There is no error: the slot is not below 0.
	heard, _ := k.bus.Carry(k.slot, k.sends(owner, x), x.Copies)
	for id, n := range k.nodes {
		if id == owner {
			continue
		}
		reading := n.Reading(offset, nth(x.Misread, id))
		k.gather(n.Hear(k.slot, heard[id], heard[id] == nil, reading)...)
	}
}

// sends is what is on the bus: what others say out of turn comes first.
func (k *Cluster) sends(owner int, x api.Choice) []api.Send {
	frame, came, ok := k.nodes[owner].Send(k.slot)
	k.gather(came...)
	sends := slices.Clone(x.Babble)
	switch {
	case x.Forged != nil:
		sends = append(sends, api.Send{Node: owner, Bytes: x.Forged})
	case ok:
		sends = append(sends, api.Send{Node: owner, Bytes: frame})
	}
	return sends
}

// gather keeps what was delivered.
func (k *Cluster) gather(came ...api.Delivery) { k.came = append(k.came, came...) }

// place is the slot's, in its round.
func (k *Cluster) place() int { return k.slot % k.tables.Nodes }

// nth is the n-th of some numbers; 0, if there are fewer.
func nth(l []int, n int) int {
	if n >= len(l) {
		return 0
	}
	return l[n]
}
