package bus_test

import (
	"math"
	"slices"
	"testing"

	"rota/api"
)

// P7.3: the chapter's examples.
func TestCarryExamples(t *testing.T) {
	b := mustNew(t, chapters())
	carries(t, b, 1, sends(send(1, 0x80)), copies(lost, fine, lost, burst(0, 0x80)), nil, []byte{0x80}, nil, []byte{0})
	counts(t, b, 1, 0)
	refuses(t, b, -1, sends(send(1, 0x80)), copies(lost, fine, lost, burst(0, 0x80)), api.ErrArg)
	counts(t, b, 1, 0)
}

// all is as often the same bytes.
func all(n int, data ...byte) [][]byte {
	l := make([][]byte, n)
	for i := range l {
		l[i] = append([]byte{}, data...)
	}
	return l
}

// P7.3: who has no copy receives the bytes as they are; copies of no node are
// passed over.
func TestCarryToAll(t *testing.T) {
	for _, c := range []api.Config{chapters(), some(), widest()} {
		b := mustNew(t, c)
		for slot := range 2 * c.Nodes {
			owner := c.Owners[slot%c.Nodes]
			l := sends(send((owner+1)%c.Nodes, 9), send(owner, 4, 5), send(owner, 6))
			carries(t, b, slot, l, nil, all(c.Nodes, 4, 5)...)
			carries(t, b, slot, l, copies(), all(c.Nodes, 4, 5)...)
			many := make([]api.Copy, c.Nodes, 3*c.Nodes)
			carries(t, b, slot, l, many, all(c.Nodes, 4, 5)...)
			for range 2 * c.Nodes {
				many = append(many, lost)
			}
			carries(t, b, slot, l, many, all(c.Nodes, 4, 5)...)
		}
		counts(t, b, uint64(8*c.Nodes), uint64(16*c.Nodes))
	}
}

// P7.3: the n-th copy is node n's, however many there are; the owner's own is
// not looked at.
func TestCarryByCopies(t *testing.T) {
	for _, c := range []api.Config{chapters(), some(), widest()} {
		b := mustNew(t, c)
		for slot := range c.Nodes {
			owner := c.Owners[slot]
			for node := range c.Nodes {
				for _, x := range []struct {
					copy api.Copy
					want []byte
				}{{lost, nil}, {burst(0, 0x101), []byte{0xab, 0xcc}}, {fine, []byte{0xaa, 0xcd}}} {
					by := append(make([]api.Copy, node), x.copy)
					want := all(c.Nodes, 0xaa, 0xcd)
					if node != owner {
						want[node] = x.want
					}
					carries(t, b, slot, sends(send(owner, 0xaa, 0xcd)), by, want...)
					carries(t, b, slot, sends(send(owner, 0xaa, 0xcd)), append(by, make([]api.Copy, 20)...), want...)
				}
			}
		}
	}
}

// P7.3: the owner receives its bytes as they are, whatever becomes of all
// copies.
func TestCarryToTheOwner(t *testing.T) {
	b := mustNew(t, some())
	for slot, owner := range some().Owners {
		want := make([][]byte, 4)
		want[owner] = []byte{7, 8, 9}
		carries(t, b, slot, sends(send(owner, 7, 8, 9)), copies(lost, lost, lost, lost), want...)
		want = all(4, 0xf8, 8, 9)
		want[owner] = []byte{7, 8, 9}
		mask := burst(0, 0xff)
		carries(t, b, slot, sends(send(owner, 7, 8, 9)), copies(mask, mask, mask, mask), want...)
	}
}

// P7.3: a Kind that is none of the three is fine; At and Mask are a burst's
// alone.
func TestCarryOfAnyKind(t *testing.T) {
	b := mustNew(t, chapters())
	for _, kind := range append([]int{0, 3, 4, 5, 16, 1<<32 + 2}, ends...) {
		odd := api.Copy{Kind: kind, At: 0, Mask: 1<<32 - 1}
		carries(t, b, 0, sends(send(0, 1, 2)), copies(odd, odd, lost, odd), []byte{1, 2}, []byte{1, 2}, nil, []byte{1, 2})
	}
	loud := api.Copy{Kind: api.CopyLost, At: 3, Mask: 5}
	carries(t, b, 0, sends(send(0, 1, 2)), copies(loud, loud), []byte{1, 2}, nil, []byte{1, 2}, []byte{1, 2})
}

// P7.3: bursts at all places, beside the bytes and beyond too.
func TestCarryBursts(t *testing.T) {
	b := mustNew(t, chapters())
	for _, x := range []struct {
		copy api.Copy
		want []byte
	}{
		{burst(0, 0), []byte{0, 0}},
		{burst(4, 17), []byte{16, 1}},
		{burst(-1, 3), []byte{1, 0}},
		{burst(-31, 1<<31), []byte{1, 0}},
		{burst(-32, 1<<32-1), []byte{0, 0}},
		{burst(15, 1<<32-1), []byte{0, 128}},
		{burst(16, 1<<32-1), []byte{0, 0}},
		{burst(0, 1<<32-1), []byte{255, 255}},
		{burst(math.MaxInt, 1<<32-1), []byte{0, 0}},
		{burst(math.MinInt, 1<<32-1), []byte{0, 0}},
		{burst(1<<32, 1<<32-1), []byte{0, 0}},
		{burst(-1<<32, 1<<32-1), []byte{0, 0}},
	} {
		carries(t, b, 2, sends(send(2, 0, 0)), copies(fine, x.copy, x.copy), []byte{0, 0}, x.want, []byte{0, 0}, []byte{0, 0})
	}
}

// P7.3: if nothing passes, all receive nothing, the owner too, whatever
// becomes of copies; there are as many as there are nodes.
func TestCarryOfNothing(t *testing.T) {
	for _, c := range []api.Config{some(), widest()} {
		b := mustNew(t, c)
		var blocked uint64
		for slot, owner := range c.Owners {
			none := make([][]byte, c.Nodes)
			other := (owner + 1) % c.Nodes
			for _, by := range [][]api.Copy{nil, {fine, lost, burst(0, 1), {Kind: 9}}, slices.Repeat(copies(burst(0, 1)), c.Nodes)} {
				carries(t, b, slot, nil, by, none...)
				carries(t, b, slot, sends(send(other, 1), send(-1, 2), send(other, 3)), by, none...)
				blocked += 3
				counts(t, b, 0, blocked)
			}
		}
	}
}

// P7.3: who receives bytes of which there are none has an empty list, and not
// nothing, be it by a burst; what was handed in may be nil or empty.
func TestCarryOfNoBytes(t *testing.T) {
	b := mustNew(t, chapters())
	for _, data := range [][]byte{nil, {}, []byte("abc")[:0]} {
		l := sends(send(1, 5), api.Send{Node: 0, Bytes: data})
		carries(t, b, 4, l, nil, all(4)...)
		carries(t, b, 4, l, copies(lost, lost, burst(0, 1<<32-1), fine), []byte{}, nil, []byte{}, []byte{})
		carries(t, b, 4, l, copies(burst(0, 1), api.Copy{Kind: 7}, burst(-5, 1<<32-1)), all(4)...)
	}
	counts(t, b, 9, 9)
}

// P7.3: there is no slot below 0: it is refused, whatever is sent, and nothing
// is counted.
func TestCarryInNoSlot(t *testing.T) {
	b := mustNew(t, chapters())
	passes(t, b, 0, sends(send(0, 1), send(1, 1)), 1)
	for _, slot := range below {
		for _, l := range [][]api.Send{nil, {}, {send(-1, 1)}, {send(0, 1), send(1, 1), send(2, 1), send(3, 1), send(slot, 1)}} {
			refuses(t, b, slot, l, nil, api.ErrArg)
			refuses(t, b, slot, l, copies(lost, fine, burst(0, 1)), api.ErrArg)
		}
	}
	counts(t, b, 1, 1)
}

// P7.3: what passes, and what is blocked, is counted as in Pass; how many
// receive it makes no difference.
func TestCarryCounts(t *testing.T) {
	b := mustNew(t, some())
	l := sends(send(0, 1), send(2, 2), send(2, 3), send(9, 4))
	carries(t, b, 0, l, nil, all(4, 2)...)
	counts(t, b, 1, 3)
	passes(t, b, 0, l, 2)
	counts(t, b, 2, 6)
	carries(t, b, 0, l, copies(lost, lost, lost, lost), nil, nil, []byte{2}, nil)
	counts(t, b, 3, 9)
	carries(t, b, 3, l, nil, nil, nil, nil, nil)
	counts(t, b, 3, 13)
}
