package vlink_test

import (
	"slices"
	"testing"

	"rota/api"
)

// P6.1: the chapter's examples.
func TestPackOfTheChapter(t *testing.T) {
	c := chapters()
	packs(t, c, 2, handing(map[int][]byte{0: {7, 8}}), bytesAt(3, 1, 7, 8))
	packs(t, c, 2, handing(map[int][]byte{0: {7}}), payload{})
	packs(t, c, 2, handing(nil), payload{})
	packs(t, c, 0, always(7, 8), payload{})
}

// P6.1: each link of the node is asked once, of its Source, in the order of
// links, and nothing else is; of others none is.
func TestTakeIsAsked(t *testing.T) {
	c := some()
	for node, want := range [][]int{{7}, {12}, {0, 2, 9}, nil} {
		for _, ok := range []bool{true, false} {
			for _, data := range [][]byte{nil, {5}, {5, 6}, make([]byte, 32)} {
				var asked []int
				mustPack(t, c, node, func(port int) ([]byte, bool) {
					asked = append(asked, port)
					return data, ok
				})
				if !slices.Equal(asked, want) {
					t.Errorf("node %d, %v, %v: asked %v, not %v", node, data, ok, asked, want)
				}
			}
		}
	}
}

// P6.1: each message is laid in its link's place, behind a 1; all else is 0.
func TestMessagesAreLaid(t *testing.T) {
	c := some()
	all := allOf2()
	all[7], all[12], all[11] = []byte{3, 4}, []byte{5, 6}, []byte{99, 99}
	packs(t, c, 2, handing(all), laidOf2())
	packs(t, c, 0, handing(all), bytesAt(2, 1, 3, 4))
	packs(t, c, 1, handing(all), bytesAt(61, 1, 5, 6))
	packs(t, c, 3, handing(all), payload{})

	delete(all, 0)
	packs(t, c, 2, handing(all), bytesAt(0, 1, 9, 1, 7, 8))
	delete(all, 2)
	packs(t, c, 2, handing(all), bytesAt(2, 1, 7, 8))
	delete(all, 9)
	packs(t, c, 2, handing(all), payload{})
}

// P6.1: a message of noughts is one, too, and of ones.
func TestMessagesOfNoughts(t *testing.T) {
	c := some()
	packs(t, c, 0, handing(map[int][]byte{7: {0, 0}}), bytesAt(2, 1, 0, 0))
	packs(t, c, 2, handing(map[int][]byte{2: {1}, 9: {1, 1}}), bytesAt(0, 1, 1, 1, 1, 1))
}

// P6.1: what is not just as long as the link's Size, or is not true, is no
// message; those behind it are laid.
func TestWhatIsNoMessage(t *testing.T) {
	c := some()
	for n := range 100 {
		p := bytesAt(0, 1, 9)
		if n == 32 {
			p = with(p, 31, counting(1, 32)...)
		}
		packs(t, c, 2, handing(map[int][]byte{0: counting(1, n), 2: {9}}), p)
		p = bytesAt(0, 1, 9)
		if n == 2 {
			p = with(p, 2, 1, 2)
		}
		packs(t, c, 2, handing(map[int][]byte{9: counting(1, n), 2: {9}}), p)
		take := func(port int) ([]byte, bool) { return counting(1, n), false }
		packs(t, c, 2, take, payload{})
	}
	packs(t, c, 2, always(), payload{})
	packs(t, c, 2, handing(map[int][]byte{0: nil, 2: {}, 9: nil}), payload{})
}

// P6.1: of what stands behind a message's end nothing is laid.
func TestRoomBehindIsNotLaid(t *testing.T) {
	data := []byte{7, 8, 77, 77, 77}
	packs(t, chapters(), 2, always(data[:2]...), bytesAt(3, 1, 7, 8))
}

// P6.1: each answer is laid before the next one is asked for: they may be in
// one and the same memory.
func TestAnswersInOneMemory(t *testing.T) {
	room := make([]byte, 32)
	n := byte(0)
	take := func(port int) ([]byte, bool) {
		n++
		for i := range room {
			room[i] = n
		}
		return room[:some().Ports[port].Size], true
	}
	packs(t, some(), 2, take, with(bytesAt(0, 1, 2, 1, 3, 3), 31, ones(32)...))
}

// P6.1: what is asked, and where it is laid, is by the configuration that was
// handed in, though who is asked changes its lists.
func TestTakeChangesTheConfiguration(t *testing.T) {
	for at := range 3 {
		c := some()
		calls := 0
		take := func(port int) ([]byte, bool) {
			if calls == at {
				spoil(c)
			}
			calls++
			return allOf2()[port], true
		}
		packs(t, c, 2, take, laidOf2())
		if calls != 3 {
			t.Errorf("%d calls", calls)
		}
	}
}

// P6.1: 31 links of one byte each fill the payload of one node.
func TestManyLinks(t *testing.T) {
	c, all := manyLinks()
	var want payload
	for i := range 31 {
		want[2*i], want[2*i+1] = 1, byte(100+i)
	}
	packs(t, c, 3, handing(all), want)
	delete(all, c.Links[30].Source)
	want[60], want[61] = 0, 0
	packs(t, c, 3, handing(all), want)
}

// manyLinks has 31 links, all of node 3 and to node 1, and a message of each.
func manyLinks() (api.Config, map[int][]byte) {
	c := bare(4)
	c.Parts = []api.Part{{Node: 1}, {Node: 3}}
	all := map[int][]byte{}
	for i := range 31 {
		c.Ports = append(c.Ports, dest(0, api.Queuing, 1), source(1, api.Queuing, 1))
		c.Links = append(c.Links, api.Link{Source: 2*i + 1, Dests: []int{2 * i}, Offset: 2 * i})
		all[2*i+1] = []byte{byte(100 + i)}
	}
	return c, all
}
