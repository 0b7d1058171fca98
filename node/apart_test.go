package node_test

import (
	"bytes"
	"reflect"
	"slices"
	"testing"

	"rota/api"
)

// spoil writes over all the room of some bytes.
func spoil(b []byte) {
	b = b[:cap(b)]
	for i := range b {
		b[i] = 211
	}
}

// spoilTables makes all lists of c say something that may not be.
func spoilTables(c api.Config) {
	for _, l := range c.Links {
		for i := range l.Dests {
			l.Dests[i] = 1 << 40
		}
	}
	for _, row := range c.Windows {
		for i := range row {
			row[i] = 99
		}
	}
	for i := range c.Owners {
		c.Owners[i] = -9
	}
	clear(c.Parts)
	clear(c.Ports)
	clear(c.Windows)
	clear(c.Links)
}

// roomy is some, with room behind each list's end, in which something stands.
func roomy() api.Config {
	c := some()
	c.Owners = append(c.Owners, -77)[:5]
	c.Parts = append(c.Parts, api.Part{Node: -77})[:4]
	c.Ports = append(c.Ports, api.Port{Part: -77})[:13]
	c.Windows = append(c.Windows, []int{-77})[:5]
	c.Links = append(c.Links, api.Link{Source: -77})[:4]
	for i := range c.Links {
		d := c.Links[i].Dests
		c.Links[i].Dests = append(d, -77)[:len(d)]
	}
	return c
}

// P10.8: the configuration is only read, the room behind its lists too.
func TestConfigIsOnlyRead(t *testing.T) {
	c := roomy()
	n := joined(t, c, 0, 1)
	fills(t, n)
	n.Send(1)
	ends(t, n, 4, 0)
	hearsNone(t, n, 2, says(t, c, 2, 31, payload{}), 0)
	starts(t, n, 0)
	if !reflect.DeepEqual(c, some()) {
		t.Errorf("%v", c)
	}
	behind := c.Owners[:6][5] + c.Parts[:5][4].Node + c.Ports[:14][13].Part + c.Windows[:6][5][0] + c.Links[:5][4].Source
	for _, l := range c.Links {
		behind += l.Dests[:len(l.Dests)+1][len(l.Dests)]
	}
	if behind != -77*9 {
		t.Errorf("%d", behind)
	}
}

// P10.8: the configuration is not kept: what becomes of it makes no difference.
func TestConfigIsNotKept(t *testing.T) {
	c := some()
	n := joined(t, c, 0, 10)
	spoilTables(c)
	c.Nodes, c.Margin, c.Drift = 0, 0, 0

	c = some()
	for range 2 {
		hears(t, n, 10, says(t, c, 10, 31, fromTwo(5)), 50, toZero(10, 5)...)
		hearsSilence(t, n, 10, 0)
		is(t, n, seen{api.Active, 27, 10, 0})
		hearsNone(t, n, 10, says(t, c, 10, 31, fromTwo(5)), 91)
		hears(t, n, 10, says(t, c, 10, 31, fromTwo(5)), 50, toZero(10, 5)...)
		ends(t, n, 4, 25)
		fills(t, n)
		sends(t, n, 11, api.Frame{Owner: 0, State: api.State{Slot: 11, Members: 31}, Payload: laid(1)}, come(11, 0, 2, 1, 1, 100))
		starts(t, n, 0)
		joins(t, n, 10)
	}
}

// P10.8: operations and bytes are only read, the room behind them too, and not
// kept.
func TestHandedInIsOnlyRead(t *testing.T) {
	c := some()
	n := joined(t, c, 0, 10)
	data := []byte{1, 100, 77, 77}
	ops := []api.Op{{Kind: api.OpSend, Port: 0, Data: data[:2]}, write(0, 9), {Kind: 77}, {Kind: 77}}
	kept := slices.Clone(ops)
	if _, count := n.Window(0, 0, ops[:2]); count != 2 || !reflect.DeepEqual(ops, kept) || !bytes.Equal(data, []byte{1, 100, 77, 77}) {
		t.Errorf("%d, %v, %v", count, ops, data)
	}
	clear(data)
	clear(ops)

	b := append(says(t, c, 10, 31, fromTwo(5)), 77, 77)[:75]
	was := slices.Clone(b[:77])
	l := n.Hear(10, b, false, 0)
	isSame(t, l, toZero(10, 5))
	if !bytes.Equal(b[:77], was) {
		t.Errorf("%v", b[:77])
	}
	spoil(b)
	isSame(t, l, toZero(10, 5))
	runs(t, n, 0, 10, fine(get(9), 5))
	runs(t, n, 2, 10, fine(get(10), 5))
	ends(t, n, 0, 0)
	sends(t, n, 11, api.Frame{Owner: 0, State: api.State{Slot: 11, Members: 31}, Payload: with(payload{}, 40, 1, 100)}, come(11, 0, 2, 1, 1, 100))
}

// P10.8: what is answered is new memory, and no two lists share any: neither
// the results, nor the frame, nor the deliveries' data, nor what the ports have.
func TestAnswersAreNew(t *testing.T) {
	c := some()
	n := joined(t, c, 0, 10)
	b := says(t, c, 10, 31, fromTwo(5))
	for range 3 {
		l := n.Hear(10, b, false, 0)
		isSame(t, l, toZero(10, 5))
		spoil(l[0].Data)
		if !bytes.Equal(l[1].Data, []byte{5}) {
			t.Errorf("%v", l)
		}
		spoil(l[1].Data)
		clear(l)
		runs(t, n, 0, 10, fine(get(9), 5))
		runs(t, n, 2, 10, fine(get(10), 5))
	}
	runs(t, n, 0, 0, fine(write(0, 9)))
	results, _ := n.Window(0, 0, []api.Op{read(0), read(0)})
	spoil(results[0].Data)
	if !bytes.Equal(results[1].Data, []byte{9}) {
		t.Errorf("%v", results)
	}
	runs(t, n, 0, 0, fine(read(0), 9))
	ends(t, n, 0, 0)

	fills(t, n)
	for i := range byte(2) {
		f, l, ok := n.Send(11)
		if !ok || len(l) != 1 {
			t.Fatalf("%v, %v, %v", f, l, ok)
		}
		spoil(f)
		isSame(t, l, []api.Delivery{come(11, 0, 2, 1, 1+i, 100)})
		spoil(l[0].Data)
		runs(t, n, 2, 0, fine(get(2), 1+i, 100))
	}
	sends(t, n, 11, api.Frame{Owner: 0, State: api.State{Slot: 11, Members: 31}, Payload: laid(3)}, come(11, 0, 2, 1, 3, 100))
}
