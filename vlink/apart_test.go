package vlink_test

import (
	"bytes"
	"math/rand"
	"reflect"
	"slices"
	"testing"

	"rota/api"
	"rota/vlink"
)

// marked is a list behind whose end a mark stands.
func marked[T any](l []T, mark T) []T { return append(l, mark)[:len(l)] }

// behind is what stands behind the end of a list.
func behind[T any](l []T) T { return l[:len(l)+1][len(l)] }

// P6.4: the configuration and what take answers are only read, the room behind
// them too.
func TestHandedInIsOnlyRead(t *testing.T) {
	c := some()
	c.Owners, c.Parts, c.Ports = marked(c.Owners, -77), marked(c.Parts, api.Part{Node: -77}), marked(c.Ports, api.Port{Part: -77})
	c.Windows, c.Links = marked(c.Windows, []int{-77}), marked(c.Links, api.Link{Source: -77})
	for i := range c.Windows {
		c.Windows[i] = marked(c.Windows[i], -77)
	}
	for i := range c.Links {
		c.Links[i].Dests = marked(c.Links[i].Dests, -77)
	}
	data := []byte{7, 8, 77, 77}
	for node := range 4 {
		mustPack(t, c, node, always(data[:2]...))
		mustUnpack(t, c, node, full())
		for other := range 4 {
			mustDeliver(t, c, node, other, 9, full())
		}
	}
	if !reflect.DeepEqual(c, some()) || !bytes.Equal(data, []byte{7, 8, 77, 77}) {
		t.Errorf("%v, %v", c, data)
	}
	marks := []int{behind(c.Owners), behind(c.Parts).Node, behind(c.Ports).Part, behind(c.Windows)[0], behind(c.Links).Source}
	for i := range c.Windows {
		marks = append(marks, behind(c.Windows[i]))
	}
	for i := range c.Links {
		marks = append(marks, behind(c.Links[i].Dests))
	}
	for i, m := range marks {
		if m != -77 {
			t.Errorf("behind list %d: %d", i, m)
		}
	}
}

// overwrite writes over all the room of some bytes.
func overwrite(b []byte) {
	b = b[:cap(b)]
	for i := range b {
		b[i] = 211
	}
}

// P6.4: what Unpack answers is new memory, each message its own.
func TestAnswersAreNew(t *testing.T) {
	c, p := some(), laidOf2()
	for range 3 {
		l, other := mustUnpack(t, c, 2, p), mustUnpack(t, c, 2, p)
		want := []api.Arrival{came(1, long...), came(2, 9), came(3, 7, 8)}
		for i := range l {
			if !slices.EqualFunc(l[i:], want[i:], sameArrival) {
				t.Errorf("%d: %v", i, l)
			}
			overwrite(l[i].Data)
			l[i].Link = -1
		}
		if !slices.EqualFunc(other, want, sameArrival) {
			t.Errorf("%v", other)
		}
	}
}

// P6.4: what is handed is new memory, for each port: who is handed it may keep
// it, and write over it.
func TestHandedOutIsNew(t *testing.T) {
	c := some()
	var kept [][]byte
	n, err := vlink.Deliver(c, 2, 0, 9, laidOf2(), func(port int, data []byte, _ int) api.Errno {
		want := []byte{9}
		if port == 1 {
			want = long
		}
		if !bytes.Equal(data, want) {
			t.Errorf("port %d: %v", port, data)
		}
		for _, other := range kept {
			if &other[0] == &data[0] {
				t.Errorf("port %d: one memory", port)
			}
		}
		overwrite(data)
		kept = append(kept, data)
		return api.OK
	})
	if n != 3 || err != api.OK {
		t.Fatal(n, err)
	}
	for i, data := range kept {
		for j := range data {
			data[j] = byte(i)
		}
	}
	for i, data := range kept {
		if slices.ContainsFunc(data, func(b byte) bool { return b != byte(i) }) {
			t.Errorf("%d: %v", i, data)
		}
	}
}

// P6.4: nothing is kept: each call's answer is by what it was handed.
func TestNothingIsKept(t *testing.T) {
	c := some()
	data := []byte{7, 8}
	p := mustPack(t, c, 0, always(data...))
	l := mustUnpack(t, c, 0, p)
	data[0], p[3] = 99, 99
	c.Links[0].Offset = 40
	if !sameArrival(l[0], came(0, 7, 8)) {
		t.Errorf("%v", l)
	}
	packs(t, c, 0, always(5, 6), bytesAt(40, 1, 5, 6))
	unpacks(t, c, 0, p, none(0))
	delivers(t, c, 0, 2, 9, p)
	delivers(t, c, 0, 2, 9, bytesAt(40, 1, 5, 6), arrival{8, []byte{5, 6}, 9})
}

// anyPayload has many bytes of 1, so that some links have a message.
func anyPayload(r *rand.Rand) payload {
	var p payload
	for i := range p {
		p[i] = []byte{1, 1, 1, 0, 2, byte(r.Intn(256))}[r.Intn(6)]
	}
	return p
}

// anyMessages are messages of ports by chance, some of which are none.
func anyMessages(r *rand.Rand, c api.Config) map[int][]byte {
	all := map[int][]byte{}
	for port := range c.Ports {
		if r.Intn(4) > 0 {
			all[port] = anyMessage(r, c.Ports[port].Size)
		}
	}
	return all
}

func anyMessage(r *rand.Rand, size int) []byte {
	data := make([]byte, max(0, size+[]int{0, 0, 0, 0, 0, 0, 1, -1}[r.Intn(8)]))
	r.Read(data)
	return data
}

// P6.5: Unpack of Pack tells just what was taken.
func TestUnpackOfPack(t *testing.T) {
	r := rand.New(rand.NewSource(65))
	for range 500 {
		c := anyConfig(r)
		all := anyMessages(r, c)
		for node := range c.Nodes {
			var want []api.Arrival
			for n, l := range c.Links {
				data, ok := all[l.Source]
				switch {
				case c.Parts[c.Ports[l.Source].Part].Node != node:
				case ok && len(data) == c.Ports[l.Source].Size:
					want = append(want, came(n, data...))
				default:
					want = append(want, none(n))
				}
			}
			unpacks(t, c, node, mustPack(t, c, node, handing(all)), want...)
		}
	}
}

// P6.5: what stands in a link's place hangs on its own Source alone; and where
// no link's place is nothing stands.
func TestPlacesAreApart(t *testing.T) {
	r := rand.New(rand.NewSource(66))
	for range 300 {
		c := anyConfig(r)
		for n, l := range c.Links {
			one, other := anyMessages(r, c), anyMessages(r, c)
			other[l.Source] = one[l.Source]
			if _, ok := one[l.Source]; !ok {
				delete(other, l.Source)
			}
			node, place := c.Parts[c.Ports[l.Source].Part].Node, placeOf(c, l)
			p, q := mustPack(t, c, node, handing(one)), mustPack(t, c, node, handing(other))
			if !bytes.Equal(p[place.From:place.To], q[place.From:place.To]) {
				t.Fatalf("link %d: %v, %v", n, p, q)
			}
		}
		for node := range c.Nodes {
			p := mustPack(t, c, node, handing(anyMessages(r, c)))
			for _, l := range c.Links {
				if place := placeOf(c, l); c.Parts[c.Ports[l.Source].Part].Node == node {
					clear(p[place.From:place.To])
				}
			}
			if p != (payload{}) {
				t.Fatalf("node %d: %v", node, p)
			}
		}
	}
}

func placeOf(c api.Config, l api.Link) api.Span {
	return api.Span{From: l.Offset, To: l.Offset + 1 + c.Ports[l.Source].Size}
}

// P6.5: what is delivered to a port hangs on its own link's place alone; and
// each port gets one message at most.
func TestPortsAreApart(t *testing.T) {
	r := rand.New(rand.NewSource(67))
	for range 300 {
		c := anyConfig(r)
		for _, l := range c.Links {
			owner, place := c.Parts[c.Ports[l.Source].Part].Node, placeOf(c, l)
			p, q := anyPayload(r), anyPayload(r)
			copy(q[place.From:place.To], p[place.From:place.To])
			for node := range c.Nodes {
				one, other := byPort(t, c, owner, node, p), byPort(t, c, owner, node, q)
				for _, d := range l.Dests {
					if !bytes.Equal(one[d], other[d]) {
						t.Fatalf("port %d: %v, %v", d, one[d], other[d])
					}
				}
			}
		}
	}
}

// byPort is what was delivered, by port; it tells of a port that got more than
// one message.
func byPort(t *testing.T, c api.Config, owner, node int, p payload) map[int][]byte {
	t.Helper()
	got := map[int][]byte{}
	for _, a := range mustDeliver(t, c, owner, node, 9, p) {
		if _, ok := got[a.port]; ok {
			t.Errorf("port %d: more than one", a.port)
		}
		got[a.port] = a.data
	}
	return got
}
