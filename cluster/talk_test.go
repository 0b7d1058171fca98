package cluster_test

import (
	"slices"
	"testing"

	"rota/api"
)

// talker is of four nodes. Node 0's partition has port 0, whose messages go to
// ports 1 and 2, of the partitions of node 1 and of node 0 itself.
func talker() api.Config {
	c := chapters()
	c.Parts = append(c.Parts, api.Part{Node: 1})
	c.Windows[1] = []int{1, 1, 1, 1}
	c.Ports = []api.Port{source(0, 1, 8), queue(1, 1, 8), queue(0, 1, 8)}
	c.Links = []api.Link{{Source: 0, Dests: []int{1, 2}}}
	return c
}

// forged is a frame that node 0 could send in slot 0, but with another message.
func forged(t *testing.T) []byte {
	t.Helper()
	return says(t, talker(), 0, 0b1111, with(payload{}, 0, 66))
}

// own is what node 0 delivers to itself, and others what node 1 gets.
func own(slot int, b byte) api.Delivery { return come(slot, 0, 2, 0, b) }

func others(slot int, b byte) api.Delivery { return come(slot, 1, 1, 0, b) }

// P11.2: by each way to choose what is on the bus in slot 0: what is delivered
// in it, by whom all others know node 0 behind it, and how many are blocked.
func TestOnTheBus(t *testing.T) {
	frame, junk := forged(t), []byte{1, 2, 3}
	babble := func(l ...api.Send) api.Choice { return api.Choice{Babble: l} }
	both := func(forged []byte, l ...api.Send) api.Choice { return api.Choice{Forged: forged, Babble: l} }
	for name, x := range map[string]struct {
		choice  api.Choice
		came    []api.Delivery
		isKnown bool
		blocked uint64
	}{
		"nothing chosen":         {api.Choice{}, []api.Delivery{own(0, 5), others(0, 5)}, true, 0},
		"forged":                 {both(frame), []api.Delivery{own(0, 5), others(0, 66)}, true, 0},
		"forged, but no frame":   {both(junk), []api.Delivery{own(0, 5)}, false, 0},
		"forged, of no bytes":    {both([]byte{}), []api.Delivery{own(0, 5)}, false, 0},
		"others babble":          {babble(api.Send{Node: 1, Bytes: frame}, api.Send{Node: 3}, api.Send{Node: -1}, api.Send{Node: 4}), []api.Delivery{own(0, 5), others(0, 5)}, true, 4},
		"the owner babbles":      {babble(api.Send{Node: 2}, api.Send{Node: 0, Bytes: frame}, api.Send{Node: 0, Bytes: junk}), []api.Delivery{own(0, 5), others(0, 66)}, true, 3},
		"the owner babbles junk": {babble(api.Send{Node: 0, Bytes: junk}, api.Send{Node: 0, Bytes: frame}), []api.Delivery{own(0, 5)}, false, 2},
		"babble, and forged":     {both(frame, api.Send{Node: 1, Bytes: junk}), []api.Delivery{own(0, 5), others(0, 66)}, true, 1},
		"babble ahead of forged": {both(junk, api.Send{Node: 0, Bytes: frame}), []api.Delivery{own(0, 5), others(0, 66)}, true, 1},
	} {
		k := mustNew(t, talker(), true, []api.Op{put(0, 5)})
		steps(t, k, x.choice)
		if !isSameList(k.Deliveries(), x.came, isSameDelivery) {
			t.Errorf("%s: %v, not %v", name, k.Deliveries(), x.came)
		}
		if k.Blocked() != x.blocked {
			t.Errorf("%s: %d blocked", name, k.Blocked())
		}
		vector := uint16(0b1110)
		if x.isKnown {
			vector = 0b1111
		}
		is(t, k, 0, seen{api.Active, 0b1111, 1, 0})
		for id := 1; id < 4; id++ {
			is(t, k, id, seen{api.Active, vector, 1, 0})
		}
	}
}

// P11.2: bytes that are none are not silence: who listens to nobody is not
// quiet in a slot of them.
func TestNoBytesAreBytes(t *testing.T) {
	c := chapters()
	quiet := func(x api.Choice) int {
		k := mustNew(t, c, false)
		steps(t, k, starts(1))
		for k.State(0) == api.Listen && k.Slot() < 99 {
			choice := api.Choice{}
			if k.Slot() == 6 {
				choice = x
			}
			steps(t, k, choice)
		}
		return k.Slot() - 1
	}
	for want, l := range map[int][]api.Choice{
		8:  {{}, {Forged: nil}, {Babble: []api.Send{{Node: 1}}}},
		16: {{Forged: []byte{}}, {Forged: []byte{9}}, {Babble: []api.Send{{Node: 2}}}, {Babble: []api.Send{{Node: 2, Bytes: []byte{}}}}},
	} {
		for _, x := range l {
			if slot := quiet(x); slot != want {
				t.Errorf("%+v: active in slot %d, not %d", x, slot, want)
			}
		}
	}
}

// P11.2: the owner of the slot sends, and it alone; where it sends nothing,
// others hear silence, or what is forged.
func TestForgedForOneThatIsSilent(t *testing.T) {
	k := mustNew(t, talker(), true, []api.Op{put(0, 5)})
	steps(t, k, starts(1))
	comes(t, k)
	is(t, k, 2, seen{api.Active, 0b1110, 1, 0})

	k = mustNew(t, talker(), true, []api.Op{put(0, 5)})
	x := starts(1)
	x.Forged = forged(t)
	steps(t, k, x)
	comes(t, k, others(0, 66))
	is(t, k, 0, seen{api.Listen, 0, -1, 0})
	is(t, k, 2, seen{api.Active, 0b1111, 1, 0})

	k = mustNew(t, talker(), true, []api.Op{put(0, 5)})
	idles(t, k, 1)
	steps(t, k, starts(0), api.Choice{}, api.Choice{})
	comes(t, k, own(0, 5), others(0, 5))
}

// P11.2: each hears its own copy; the owner is not touched by its own.
func TestCopies(t *testing.T) {
	lost := api.Copy{Kind: api.CopyLost}
	turned := api.Copy{Kind: api.CopyBurst, At: 599, Mask: 1}
	letBe := []api.Copy{{}, {Kind: 3}, {Kind: -1, Mask: 1}, {Kind: api.CopyBurst, At: 600, Mask: 1}, {Kind: api.CopyBurst}}
	for _, bad := range []api.Copy{lost, turned} {
		for who := range uint16(16) {
			for _, good := range letBe {
				k := mustNew(t, talker(), true, []api.Op{put(0, 5)})
				l := make([]api.Copy, 4)
				want := []api.Delivery{own(0, 5)}
				for id := range l {
					l[id] = good
					if who>>id&1 == 1 {
						l[id] = bad
					}
				}
				if who>>1&1 == 0 {
					want = append(want, others(0, 5))
				}
				steps(t, k, api.Choice{Copies: append(l, bad)})
				comes(t, k, want...)
				for id := range 4 {
					vector := uint16(0b1111)
					if id > 0 && who>>id&1 == 1 {
						vector = 0b1110
					}
					is(t, k, id, seen{api.Active, vector, 1, 0})
				}
			}
		}
	}
}

// P11.2: whose copies are not chosen hear what is sent.
func TestFewCopies(t *testing.T) {
	for n := range 6 {
		k := mustNew(t, talker(), true)
		steps(t, k, api.Choice{Copies: slices.Repeat([]api.Copy{{Kind: api.CopyLost}}, n)})
		for id := range 4 {
			vector := uint16(0b1111)
			if id > 0 && id < n {
				vector = 0b1110
			}
			is(t, k, id, seen{api.Active, vector, 1, 0})
		}
	}
}

// P11.2: deliveries stand in order: slot by slot, the owner's first, then by
// nodes, and by links.
func TestDeliveriesInOrder(t *testing.T) {
	c := bare(3, 1, 0, 2)
	c.Parts = []api.Part{{Node: 3}, {Node: 0}, {Node: 2}, {Node: 1}}
	c.Windows[3], c.Windows[0] = []int{0, 0, 0, 0}, []int{1, 1, 1, 1}
	c.Ports = []api.Port{
		source(0, 1, 0), sample(2, 1, 9), sample(1, 1, 9), sample(0, 1, 9),
		source(0, 1, 0), sample(2, 1, 9), sample(3, 1, 9),
		source(1, 1, 0), sample(2, 1, 9), sample(3, 1, 9),
	}
	c.Links = []api.Link{{Source: 7, Dests: []int{8, 9}}, {Source: 4, Dests: []int{5, 6}, Offset: 2}, {Source: 0, Dests: []int{1, 2, 3}}}
	k := mustNew(t, c, true, []api.Op{put(0, 5), put(4, 6)}, []api.Op{put(7, 7)})
	idles(t, k, 5)
	first := func(slot int) []api.Delivery {
		return []api.Delivery{come(slot, 3, 3, 2, 5), come(slot, 0, 2, 2, 5), come(slot, 1, 6, 1, 6), come(slot, 2, 5, 1, 6), come(slot, 2, 1, 2, 5)}
	}
	want := append(first(0), come(2, 1, 9, 0, 7), come(2, 2, 8, 0, 7))
	comes(t, k, append(want, first(4)...)...)
}
