package bus_test

import (
	"bytes"
	"math/rand"
	"slices"
	"testing"

	"rota/api"
)

// first is the place of the first send of a node, as the chapter words it;
// -1, if there is none.
func first(l []api.Send, node int) int {
	for i, s := range l {
		if s.Node == node {
			return i
		}
	}
	return -1
}

// turned is b with the bits from bit at on turned where mask says.
func turned(b []byte, at int, mask uint32) []byte {
	b = append([]byte{}, b...)
	for bit := range 8 * len(b) {
		if i := bit - at; i >= 0 && i < 32 && mask>>i&1 == 1 {
			b[bit/8] ^= 1 << (bit % 8)
		}
	}
	return b
}

// received is what each node receives, as the chapter words it.
func received(c api.Config, slot int, l []api.Send, by []api.Copy) [][]byte {
	got := make([][]byte, c.Nodes)
	owner := c.Owners[slot%c.Nodes]
	at := first(l, owner)
	if at < 0 {
		return got
	}
	for node := range got {
		got[node] = append([]byte{}, l[at].Bytes...)
		if node == owner || node >= len(by) {
			continue
		}
		switch x := by[node]; x.Kind {
		case 1:
			got[node] = nil
		case 2:
			got[node] = turned(l[at].Bytes, x.At, x.Mask)
		}
	}
	return got
}

func anyConfig(r *rand.Rand) api.Config { return bare(r.Perm(4 + r.Intn(13))...) }

// anySends are some, of nodes and of others; many are of one node.
func anySends(r *rand.Rand, node int) []api.Send {
	l := make([]api.Send, r.Intn(6))
	for i := range l {
		l[i].Node = []int{node, r.Intn(17), r.Intn(17) - 1, ends[r.Intn(len(ends))]}[r.Intn(4)]
		l[i].Bytes = make([]byte, r.Intn(12))
		r.Read(l[i].Bytes)
	}
	return l
}

func anyCopies(r *rand.Rand) []api.Copy {
	l := make([]api.Copy, r.Intn(20))
	for i := range l {
		l[i] = api.Copy{Kind: r.Intn(5) - 1, At: r.Intn(140) - 40, Mask: r.Uint32()}
	}
	return l
}

// P7.2, P7.3: runs by chance answer, and count, what the chapter's words do.
func TestRuns(t *testing.T) {
	r := rand.New(rand.NewSource(7))
	for range 100 {
		c := anyConfig(r)
		b := mustNew(t, c)
		var passed, blocked uint64
		for range 60 {
			slot := []int{r.Intn(100), r.Int()}[r.Intn(2)]
			owner := c.Owners[slot%c.Nodes]
			l := anySends(r, owner)
			at := first(l, owner)
			blocked += uint64(len(l))
			if at >= 0 {
				passed, blocked = passed+1, blocked-1
			}
			switch {
			case r.Intn(2) == 0:
				by := anyCopies(r)
				carries(t, b, slot, l, by, received(c, slot, l, by)...)
			case at >= 0:
				passes(t, b, slot, l, l[at].Bytes...)
			default:
				passesNone(t, b, slot, l...)
			}
			counts(t, b, passed, blocked)
		}
	}
}

// P7.5: what others than the owner send makes no difference to what anybody
// receives: neither that they do, nor what, nor where among the owner's.
func TestOthersMakeNoDifference(t *testing.T) {
	r := rand.New(rand.NewSource(75))
	for range 3000 {
		c := anyConfig(r)
		slot := r.Intn(100)
		owner := c.Owners[slot%c.Nodes]
		isOwners := func(s api.Send) bool { return s.Node == owner }
		own := slices.DeleteFunc(anySends(r, owner), func(s api.Send) bool { return !isOwners(s) })
		others := slices.DeleteFunc(anySends(r, (owner+1)%c.Nodes), isOwners)
		mixed := slices.Clone(own)
		for _, s := range others {
			mixed = slices.Insert(mixed, r.Intn(len(mixed)+1), s)
		}
		by := anyCopies(r)
		alone, err := mustNew(t, c).Carry(slot, own, by)
		if err != api.OK {
			t.Fatal(err)
		}
		carries(t, mustNew(t, c), slot, mixed, by, alone...)
		x, xOK := mustNew(t, c).Pass(slot, own)
		y, yOK := mustNew(t, c).Pass(slot, mixed)
		if xOK != yOK || !bytes.Equal(x, y) {
			t.Errorf("%v %v, but %v %v", x, xOK, y, yOK)
		}
	}
}
