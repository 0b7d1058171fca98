package bus_test

import (
	"bytes"
	"reflect"
	"testing"

	"rota/api"
)

// spoil writes over all the room of some bytes.
func spoil(b []byte) {
	b = b[:cap(b)]
	for i := range b {
		b[i] = 211
	}
}

// P7.4: sends and copies are only read, the room behind them too.
func TestHandedInIsOnlyRead(t *testing.T) {
	b := mustNew(t, chapters())
	whole := []byte{1, 2, 3, 77, 77}
	kept := sends(send(3, 9), api.Send{Node: 0, Bytes: whole[:3]}, send(0, 8), send(-77))
	by := copies(lost, fine, lost, burst(-3, 1<<32-1), burst(5, 77))
	l, c := append([]api.Send{}, kept...), append([]api.Copy{}, by...)
	for slot := range 8 {
		b.Pass(slot, l[:3])
		for range 2 {
			if _, err := b.Carry(slot, l[:3], c[:4]); err != api.OK {
				t.Fatal(err)
			}
		}
	}
	if !bytes.Equal(whole, []byte{1, 2, 3, 77, 77}) || !reflect.DeepEqual(l, kept) || !reflect.DeepEqual(c, by) {
		t.Errorf("%v, %v, %v", whole, l, c)
	}
}

// P7.4: the configuration is only read, and not kept.
func TestConfigIsNotKept(t *testing.T) {
	c := some()
	c.Owners = append(c.Owners, -77)[:4]
	b := mustNew(t, c)
	passes(t, b, 0, sends(send(2, 5)), 5)
	if !reflect.DeepEqual(c, some()) || c.Owners[:5][4] != -77 {
		t.Errorf("%v", c)
	}
	copy(c.Owners, []int{3, 3, 3, 3})
	c.Nodes = 0
	for slot, owner := range some().Owners {
		for node := range 4 {
			if node == owner {
				passes(t, b, slot, sends(send(node, 5)), 5)
				carries(t, b, slot, sends(send(node, 5)), nil, all(4, 5)...)
			} else {
				passesNone(t, b, slot, send(node, 5))
			}
		}
	}
}

// P7.4: what passes is new memory: it shares none with what was sent, nor
// with another answer.
func TestPassIsNew(t *testing.T) {
	b := mustNew(t, chapters())
	for size := range 80 {
		data := bytes.Repeat([]byte{7}, size)
		l := sends(api.Send{Node: 0, Bytes: data})
		x, _ := b.Pass(0, l)
		y, _ := b.Pass(0, l)
		spoil(x)
		if want := bytes.Repeat([]byte{7}, size); !bytes.Equal(y, want) || !bytes.Equal(data, want) {
			t.Errorf("%v, %v", y, data)
		}
		clear(data)
		if want := bytes.Repeat([]byte{7}, size); !bytes.Equal(y, want) {
			t.Errorf("%v", y)
		}
	}
}

// P7.4, P7.3: what is received is new memory, each node's its own, the
// owner's too; be it fine, or by a burst that turns nothing.
func TestCarryIsNew(t *testing.T) {
	b := mustNew(t, chapters())
	idle := burst(0, 0)
	for _, by := range [][]api.Copy{nil, {idle, idle, idle, idle}, {burst(999, 1), {Kind: 3}, idle}} {
		for size := range 80 {
			data, want := bytes.Repeat([]byte{7}, size), bytes.Repeat([]byte{7}, size)
			l := sends(api.Send{Node: 0, Bytes: data})
			x, _ := b.Carry(0, l, by)
			y, _ := b.Carry(0, l, by)
			clear(data)
			for node := range x {
				if !bytes.Equal(x[node], want) {
					t.Errorf("node %d: %v", node, x[node])
				}
				spoil(x[node])
				x[node] = nil
			}
			if !isSame(y, [][]byte{want, want, want, want}) || !bytes.Equal(data, make([]byte, size)) {
				t.Errorf("%v, %v", y, data)
			}
		}
	}
}

// P7.4: what was answered does not hang on later calls.
func TestAnswersStay(t *testing.T) {
	b := mustNew(t, chapters())
	x, _ := b.Carry(0, sends(send(0, 1, 2)), nil)
	p, _ := b.Pass(0, sends(send(0, 3, 4)))
	for slot := range 9 {
		carries(t, b, slot, sends(send(slot%4, 5, 6)), nil, all(4, 5, 6)...)
		passes(t, b, slot, sends(send(slot%4, 7, 8)), 7, 8)
	}
	if !isSame(x, all(4, 1, 2)) || !bytes.Equal(p, []byte{3, 4}) {
		t.Errorf("%v, %v", x, p)
	}
}
