package cluster_test

import (
	"bytes"
	"reflect"
	"slices"
	"testing"

	"rota/api"
)

// spoil writes over all the room of some bytes.
func spoil(b []byte) {
	b = b[:cap(b)]
	for i := range b {
		b[i] = 211
	}
}

// spoilTables makes all lists of c say something that may not be.
func spoilTables(c api.Config) {
	for _, l := range c.Links {
		for i := range l.Dests {
			l.Dests[i] = 1 << 40
		}
	}
	for _, row := range c.Windows {
		for i := range row {
			row[i] = 99
		}
	}
	for i := range c.Owners {
		c.Owners[i] = -9
	}
	clear(c.Parts)
	clear(c.Ports)
	clear(c.Windows)
	clear(c.Links)
}

// roomy is talker, with room behind each list's end, in which something stands.
func roomy() api.Config {
	c := talker()
	c.Owners = append(c.Owners, -77)[:4]
	c.Parts = append(c.Parts, api.Part{Node: -77})[:2]
	c.Ports = append(c.Ports, api.Port{Part: -77})[:3]
	c.Windows = append(c.Windows, []int{-77})[:4]
	c.Links = append(c.Links, api.Link{Source: -77})[:1]
	for i, row := range c.Windows {
		c.Windows[i] = append(row, -77)[:4]
	}
	c.Links[0].Dests = append(c.Links[0].Dests, -77)[:2]
	return c
}

// P11.4: the configuration is only read, the room behind its lists too, and not
// kept.
func TestConfigIsOnlyRead(t *testing.T) {
	c := roomy()
	k := mustNew(t, c, true, []api.Op{put(0, 5), yield, yield, yield, yield, put(0, 6), yield, get(2)}, []api.Op{yield, get(1)})
	idles(t, k, 1)
	if !reflect.DeepEqual(c, talker()) {
		t.Errorf("%v", c)
	}
	behind := c.Owners[:5][4] + c.Parts[:3][2].Node + c.Ports[:4][3].Part + c.Windows[:5][4][0] + c.Links[:2][1].Source + c.Links[0].Dests[:3][2]
	for _, row := range c.Windows {
		behind += row[:5][4]
	}
	if behind != -77*10 {
		t.Errorf("%d", behind)
	}
	spoilTables(c)
	idles(t, k, 6)
	for id := range 4 {
		is(t, k, id, seen{api.Active, 15, 6, 0})
	}
	comes(t, k, own(0, 5), others(0, 5), own(4, 6), others(4, 6))
	traces(t, k, 0, did(0, 0), did(0, 0), did(1, 0), did(2, 0), did(3, 0), did(4, 0), did(4, 0), did(5, 0, 5))
	traces(t, k, 1, did(0, 0), did(1, 0, 5))
}

// P11.4: streams are only read, and not kept.
func TestStreamsAreOnlyRead(t *testing.T) {
	data := []byte{5, 77, 6, 77}
	stream := []api.Op{put(0, data[:1]...), yield, yield, yield, yield, {Kind: api.OpSend, Data: data[2:3]}, {Kind: 77}}
	stream[0].Data = data[:1]
	streams := [][]api.Op{stream[:6], nil, {raise}}
	kept := slices.Clone(stream)
	k := mustNew(t, talker(), true, streams[:2]...)
	idles(t, k, 1)
	if !reflect.DeepEqual(stream, kept) || !bytes.Equal(data, []byte{5, 77, 6, 77}) || streams[1] != nil || len(streams[2]) != 1 {
		t.Errorf("%v, %v, %v", stream, data, streams)
	}
	spoil(data)
	clear(stream)
	clear(streams)
	idles(t, k, 5)
	comes(t, k, own(0, 5), others(0, 5), own(4, 6), others(4, 6))
}

// P11.4: choices are only read, the room behind their lists too, and not kept.
func TestChoicesAreOnlyRead(t *testing.T) {
	for _, isForged := range []bool{false, true} {
		choice := func() api.Choice {
			x := starts(1<<3, 1, 2, 3, 4, 77)
			x.Offsets = x.Offsets[:4]
			x.Drift = []int{1, 2, 3, 1, 77}[:4]
			x.Misread = []int{1, 2, 3, 1, 77}[:4]
			x.Copies = []api.Copy{{}, {Kind: api.CopyBurst, Mask: 3}, {}, {Kind: 77}}[:3]
			x.Babble = []api.Send{{Node: 1, Bytes: []byte{1, 77}[:1]}, {Node: 77}, {Node: 77}}[:1]
			if isForged {
				x.Forged = append(forged(t), 77)[:75]
			}
			return x
		}
		k := mustNew(t, talker(), true, []api.Op{put(0, 5)})
		x := choice()
		steps(t, k, x)
		if want := choice(); !reflect.DeepEqual(x, want) || !reflect.DeepEqual(x.Babble[:3], want.Babble[:3]) || x.Babble[0].Bytes[:2][1] != 77 ||
			x.Offsets[:5][4]+x.Drift[:5][4]+x.Misread[:5][4]+x.Copies[:4][3].Kind != 4*77 || isForged && x.Forged[:76][75] != 77 {
			t.Errorf("%+v", x)
		}
		was := k.Deliveries()
		l := []api.Choice{choice(), choice(), choice()}
		if _, err := k.Run(l[:2]); err != api.OK || !reflect.DeepEqual(l, []api.Choice{choice(), choice(), choice()}) {
			t.Errorf("%v, %+v", err, l)
		}
		spoil(x.Forged)
		spoil(x.Babble[0].Bytes)
		clear(x.Babble)
		clear(x.Drift)
		comes(t, k, was...)
	}
}

// P11.4: what is answered is new memory, and no two lists share any.
func TestAnswersAreNew(t *testing.T) {
	c := talker()
	c.Parts[0].To = 4
	k := mustNew(t, c, true, []api.Op{put(0, 5), write(0, 9), read(0), read(0), yield, get(2)}, []api.Op{yield, get(1)})
	idles(t, k, 2)
	for range 3 {
		l := k.Trace(0)
		spoil(l[2].Data)
		if !bytes.Equal(l[3].Data, []byte{9}) || !bytes.Equal(l[5].Data, []byte{5}) {
			t.Errorf("%v", l)
		}
		spoil(l[3].Data)
		spoil(l[5].Data)
		clear(l[:cap(l)])
		l = k.Trace(1)
		spoil(l[1].Data)
		clear(l[:cap(l)])
		d := k.Deliveries()
		spoil(d[0].Data)
		if !bytes.Equal(d[1].Data, []byte{5}) {
			t.Errorf("%v", d)
		}
		spoil(d[1].Data)
		clear(d[:cap(d)])
		traces(t, k, 0, did(0, 0), did(0, 0), did(0, 0, 9), did(0, 0, 9), did(0, 0), did(1, 0, 5))
		traces(t, k, 1, did(0, 0), did(1, 0, 5))
		comes(t, k, own(0, 5), others(0, 5))
	}
}

// P11.4: what was answered stays, whatever comes after it.
func TestAnswersStay(t *testing.T) {
	k := mustNew(t, talker(), true, []api.Op{put(0, 5), yield, put(0, 6), read(0)}, []api.Op{yield, get(1), yield})
	idles(t, k, 1)
	trace, came := k.Trace(1), k.Deliveries()
	trace, came = append(trace, did(-1, 0)), append(came, come(-1, 0, 0, 0))
	idles(t, k, 9)
	if !isSameList(trace, []api.Result{did(0, 0), did(-1, 0)}, isSameResult) || !isSameList(came, []api.Delivery{own(0, 5), others(0, 5), come(-1, 0, 0, 0)}, isSameDelivery) {
		t.Errorf("%v, %v", trace, came)
	}
	traces(t, k, 1, did(0, 0), did(1, 0, 5), did(1, 0))
	comes(t, k, own(0, 5), others(0, 5), own(4, 6), others(4, 6))
}

// Clusters that are made of the same are apart from each other.
func TestClustersAreApart(t *testing.T) {
	streams := [][]api.Op{{put(0, 5), raise}, {yield, get(1)}}
	k, l := mustNew(t, talker(), true, streams...), mustNew(t, talker(), true, streams...)
	steps(t, k, starts(1), starts(2), api.Choice{Babble: []api.Send{{Node: 9}}})
	isAlike(t, talker(), l, mustNew(t, talker(), true, streams...))
	idles(t, l, 2)
	comes(t, l, own(0, 5), others(0, 5))
}
