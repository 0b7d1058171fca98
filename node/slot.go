package node

import (
	"rota/api"
	"rota/frame"
	"rota/vlink"
)

// Send is what it sends in its own slot, and what of that comes to its own
// ports; false, if it sends nothing.
func (n *Node) Send(slot int) ([]byte, []api.Delivery, bool) {
	if !n.isOn() || slot < 0 {
		return nil, nil, false
	}
	// What links take is taken whether it is sent or not. There is no error: the
	// tables may be, and the node is one of theirs.
	payload, _ := vlink.Pack(n.tables, n.id, n.core.Take)
	state, ok := n.core.Turn()
	if !ok {
		return nil, nil, false
	}
	// A counter is no more than a frame can tell, so that there is no error.
	b, _ := frame.Encode(api.Frame{Owner: n.id, State: state, Payload: payload})
	return b, n.deliver(n.id, slot, payload), true
}

// Hear hears another's slot: bytes or silence, and how the owner's clock looks.
func (n *Node) Hear(slot int, b []byte, silence bool, reading int) []api.Delivery {
	if !n.isOn() || slot < 0 {
		return nil
	}
	hadCounter, wasActive := n.hasCounter(), n.isActive()
	isUntimely := hadCounter && !n.core.Fits(reading)
	f, ok := n.core.Member.Hear(b, silence || isUntimely)
	if !ok {
		return nil
	}
	n.heed(f.Owner, reading, hadCounter)
	if !wasActive {
		return nil
	}
	return n.deliver(f.Owner, slot, f.Payload)
}

// End ends a slot, and tells by how much the clock was to be moved.
func (n *Node) End(slot int) (int, api.Errno) {
	switch {
	case !n.isMade():
		return 0, api.ErrNil
	case slot < 0:
		return 0, api.ErrArg
	}
	by, err := 0, api.OK
	if n.isLastOfRound(slot) {
		by, err = n.core.Round(n.core.Vector(), n.own())
	}
	n.core.Next()
	return by, err
}

// heed takes how the clock of an owner that was accepted looks. Who had no
// counter goes by that clock, whose reading is 0 then.
func (n *Node) heed(owner, reading int, hadCounter bool) {
	if !hadCounter {
		// Where the sum goes round it is far beyond what the clock takes, too.
		n.core.Set(n.core.Offset() + reading)
		reading = 0
	}
	n.core.Clock.Hear(owner, reading)
}

// deliver brings what an owner's payload has for this node to its ports, and
// tells it, whatever the ports say.
func (n *Node) deliver(owner, slot int, payload [api.Payload]byte) []api.Delivery {
	var all []api.Delivery
	arrive := n.core.Arrive
	gather := func(port int, data []byte, slot int) api.Errno {
		all = append(all, api.Delivery{Slot: slot, Node: n.id, Port: port, Link: linkTo(n.tables, port), Data: data})
		return arrive(port, data, slot)
	}
	// There is no error: who sends, and who was accepted, is a node.
	vlink.Deliver(n.tables, owner, n.id, slot, payload, gather)
	return all
}

func (n *Node) isLastOfRound(slot int) bool { return slot%n.tables.Nodes == n.tables.Nodes-1 }

// own is whose reading is 0 when clocks are averaged: one that is not Active
// has none of its own.
func (n *Node) own() int {
	if !n.isActive() {
		return none
	}
	return n.id
}
