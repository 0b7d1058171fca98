package bus_test

import (
	"math"
	"testing"

	"rota/api"
)

// P7.2: the chapter's example, and the document's.
func TestPassExamples(t *testing.T) {
	b := mustNew(t, chapters())
	passes(t, b, 5, sends(send(0, 'x'), send(1, 'y'), send(1, 'z')), 'y')
	counts(t, b, 1, 2)
	passesNone(t, b, 0, send(1, 'y'))
	counts(t, b, 1, 3)
}

// P7.2: the owner of each slot passes, alone, by Owners, round after round.
func TestPassByTurn(t *testing.T) {
	for _, c := range []api.Config{chapters(), some(), widest()} {
		b := mustNew(t, c)
		var passed, blocked uint64
		for slot := range 3 * c.Nodes {
			owner := c.Owners[slot%c.Nodes]
			var all []api.Send
			for node := range c.Nodes {
				all = append(all, send(node, byte(node), byte(slot)))
			}
			passes(t, b, slot, all, byte(owner), byte(slot))
			passed, blocked = passed+1, blocked+uint64(c.Nodes-1)
			counts(t, b, passed, blocked)
			for node := range c.Nodes {
				if node == owner {
					passes(t, b, slot, sends(send(node, 9)), 9)
					passed++
				} else {
					passesNone(t, b, slot, send(node, 9))
					blocked++
				}
				counts(t, b, passed, blocked)
			}
		}
	}
}

// P7.2: of slots as great as can be.
func TestPassInLateSlots(t *testing.T) {
	c := bare(4, 0, 3, 1, 2)
	b := mustNew(t, c)
	for i, slot := range []int{math.MaxInt, math.MaxInt - 1, math.MaxInt32, 1 << 31, 1 << 32, 1<<32 + 3, 1 << 62} {
		owner := c.Owners[slot%5]
		passes(t, b, slot, sends(send((owner+1)%5, 1), send(owner, 2)), 2)
		counts(t, b, uint64(i+1), uint64(i+1))
	}
}

// P7.2: of several of the owner the first one passes, wherever it stands; the
// others are blocked, though they are its own.
func TestPassFirst(t *testing.T) {
	for ahead := range 5 {
		for behind := range 5 {
			b := mustNew(t, some())
			var all []api.Send
			for range ahead {
				all = append(all, send(3, 99))
			}
			all = append(all, send(0, 1, 2, 3))
			for i := range behind {
				all = append(all, send([]int{0, 1}[i%2], 98))
			}
			passes(t, b, 1, all, 1, 2, 3)
			counts(t, b, 1, uint64(ahead+behind))
		}
	}
}

// P7.2: of no sends none passes, and none is counted.
func TestPassOfNoSends(t *testing.T) {
	b := mustNew(t, some())
	for slot := range 9 {
		passesNone(t, b, slot)
		passesNone(t, b, slot, []api.Send{}...)
	}
	passesNone(t, b, -1)
	counts(t, b, 0, 0)
}

// P7.2: there is no slot below 0: whoever sends is blocked, and counted, be it
// by a number that is no node's.
func TestPassInNoSlot(t *testing.T) {
	for _, slot := range below {
		b := mustNew(t, some())
		passesNone(t, b, slot, send(0, 1), send(1, 1), send(2, 1), send(3, 1), send(-1, 1), send(slot, 1))
		counts(t, b, 0, 6)
		passesNone(t, b, slot, send(-1, 1))
		counts(t, b, 0, 7)
	}
}

// P7.2: who is no node is blocked.
func TestPassOfNoNode(t *testing.T) {
	b := mustNew(t, chapters())
	var blocked uint64
	for slot := range 8 {
		for _, node := range append([]int{4, 5, 16, slot%4 + 1<<32, slot%4 - 1<<32, slot%4 + 4, slot%4 - 4, slot%4 + 256}, ends...) {
			passesNone(t, b, slot, send(node, 1))
			blocked++
			counts(t, b, 0, blocked)
		}
	}
}

// P7.2: any bytes pass, none and very many too: they need be no frame's.
func TestPassAnyBytes(t *testing.T) {
	b := mustNew(t, chapters())
	for i, data := range [][]byte{nil, {}, {0}, make([]byte, 75), make([]byte, 1<<20)} {
		passes(t, b, 2, sends(api.Send{Node: 2, Bytes: data}, send(2, 9)), data...)
		counts(t, b, uint64(i+1), uint64(i+1))
	}
}
