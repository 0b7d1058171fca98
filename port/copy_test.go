package port_test

import (
	"bytes"
	"math/rand"
	"testing"

	"rota/api"
	"rota/port"
)

// some is a box with two messages, or with one, where no more are kept.
func some(t *testing.T, p api.Port) *port.Box {
	b := mustNew(t, p)
	for i := range byte(2) {
		if p.Dir == api.Source {
			sends(t, b, api.OK, i, i+1)
		} else {
			arrives(t, b, api.OK, 4+int(i), i, i+1)
		}
	}
	return b
}

// next is the message that a box tells next.
func next(b *port.Box, p api.Port, slot int) ([]byte, api.Errno) {
	if p.Dir == api.Dest {
		return b.Recv(slot)
	}
	data, ok := b.Take()
	if !ok {
		return data, api.ErrEmpty
	}
	return data, api.OK
}

// put brings a message into a box.
func put(b *port.Box, p api.Port, data []byte, slot int) api.Errno {
	if p.Dir == api.Source {
		return b.Send(data)
	}
	return b.Arrive(data, slot)
}

// P4.4: a copy has the same port and the same messages, slot and all.
func TestCopy(t *testing.T) {
	for _, p := range ports() {
		b := some(t, p)
		c := b.Copy()
		has(t, c, b.Len())
		for _, slot := range []int{9, 10, 3} {
			x, xErr := next(b, p, slot)
			y, yErr := next(c, p, slot)
			if !bytes.Equal(x, y) || xErr != yErr {
				t.Errorf("%v in %d: %v, %v, but its copy %v, %v", p, slot, x, xErr, y, yErr)
			}
		}
		if c.Send(make([]byte, 2)) != b.Send(make([]byte, 2)) || c.Arrive(make([]byte, 3), 0) != b.Arrive(make([]byte, 3), 0) {
			t.Errorf("%v: a copy of another port", p)
		}
	}
}

// P4.4: what is done to one of them does not touch the other one.
func TestCopyIsApart(t *testing.T) {
	for _, p := range ports() {
		for _, isCopyDone := range []bool{false, true} {
			kept := some(t, p)
			done := kept.Copy()
			if !isCopyDone {
				done, kept = kept, done
			}
			turn(done, p)
			for _, want := range told(p) {
				if data, err := next(kept, p, 5); err != api.OK || !bytes.Equal(data, want) {
					t.Errorf("%v: %v, %v, not %v", p, data, err, want)
				}
			}
		}
	}
}

// turn fills a box, empties it, and fills it again, with other messages.
func turn(b *port.Box, p api.Port) {
	for range 3 {
		for i := range byte(9) {
			put(b, p, []byte{90, i}, 50)
		}
		for range 5 {
			next(b, p, 50)
		}
	}
}

// told is what some box tells.
func told(p api.Port) [][]byte {
	if p.Kind == api.Sampling {
		return [][]byte{{1, 2}, {1, 2}}
	}
	return [][]byte{{0, 1}, {1, 2}}
}

// P4.4: that one was lost is copied; who is told of it is told alone.
func TestCopyOfLost(t *testing.T) {
	b := mustNew(t, queuing(api.Dest, 1, 1))
	arrives(t, b, api.OK, 0, 5)
	c := b.Copy()
	arrives(t, b, api.ErrFull, 0, 6)
	d := b.Copy()
	receives(t, c, 0, 5)
	receivesNone(t, d, 0, api.ErrLost)
	receives(t, d, 0, 5)
	e := b.Copy()
	receivesNone(t, b, 0, api.ErrLost)
	f := b.Copy()
	receives(t, f, 0, 5)
	receivesNone(t, e, 0, api.ErrLost)
	receives(t, b, 0, 5)
}

// P4.4: how many there are.
func TestLen(t *testing.T) {
	for _, p := range ports() {
		b := mustNew(t, p)
		for i := range 5 {
			want := min(i, max(p.Depth, 1))
			has(t, b, want)
			has(t, b.Copy(), want)
			put(b, p, []byte{1, 2}, 0)
		}
		for i := range 5 {
			next(b, p, 0)
			if p.Kind == api.Sampling {
				has(t, b, 1)
			} else if p.Dir == api.Source {
				has(t, b, max(0, 2-i))
			} else {
				has(t, b, min(3, max(0, 3-i))) // the first one told of the loss
			}
		}
	}
}

// P4.5: what is handed in is only read, the room behind it too, and not kept.
func TestHandedInIsOnlyRead(t *testing.T) {
	for _, p := range ports() {
		b := mustNew(t, p)
		whole := []byte{1, 2, 3, 4}
		for range 5 {
			put(b, p, whole[:2], 0)
		}
		if !bytes.Equal(whole, []byte{1, 2, 3, 4}) {
			t.Errorf("%v: %v", p, whole)
		}
		whole[0], whole[1], whole[2] = 9, 9, 9
		c := b.Copy()
		for _, b := range []*port.Box{c, b} {
			if p.Kind == api.Queuing && p.Dir == api.Dest {
				receivesNone(t, b, 0, api.ErrLost)
			}
			if data, err := next(b, p, 0); err != api.OK || !bytes.Equal(data, []byte{1, 2}) {
				t.Errorf("%v: %v, %v", p, data, err)
			}
		}
	}
}

// P4.5: what is answered is new memory, each time, and of a copy too.
func TestAnswersAreNew(t *testing.T) {
	for _, p := range ports() {
		b := mustNew(t, p)
		for range 2 {
			put(b, p, []byte{1, 2}, 0)
		}
		c := b.Copy()
		for range 2 {
			for _, b := range []*port.Box{b, c} {
				data, err := next(b, p, 0)
				if err != api.OK || !bytes.Equal(data, []byte{1, 2}) {
					t.Fatalf("%v: %v, %v", p, data, err)
				}
				data = data[:cap(data)]
				for i := range data {
					data[i] = 99
				}
			}
		}
	}
}

// model is a box, as the chapter words it.
type model struct {
	port api.Port
	data [][]byte
	slot int
	lost bool
}

func (m *model) put(data []byte, slot int) api.Errno {
	switch {
	case m.port.Dir == api.Dest && slot < 0:
		return api.ErrArg
	case len(data) != m.port.Size:
		return api.ErrSize
	case m.port.Kind == api.Sampling:
		m.data, m.slot = [][]byte{bytes.Clone(data)}, slot
		return api.OK
	case len(m.data) == m.port.Depth:
		m.lost = true
		return api.ErrFull
	}
	m.data = append(m.data, bytes.Clone(data))
	return api.OK
}

func (m *model) next(slot int) ([]byte, api.Errno) {
	isDest := m.port.Dir == api.Dest
	switch {
	case isDest && slot < 0:
		return nil, api.ErrArg
	case isDest && m.port.Kind == api.Queuing && m.lost:
		m.lost = false
		return nil, api.ErrLost
	case len(m.data) == 0:
		return nil, api.ErrEmpty
	case isDest && m.port.Kind == api.Sampling && slot >= m.slot+m.port.Fresh:
		return nil, api.ErrStale
	}
	first := m.data[0]
	if m.port.Kind == api.Queuing {
		m.data = m.data[1:]
	}
	return first, api.OK
}

// P4.6, and all others: runs by chance answer what the chapter's words do.
func TestRuns(t *testing.T) {
	r := rand.New(rand.NewSource(4))
	for range 400 {
		p := queuing(1+r.Intn(2), 1+r.Intn(3), 1+r.Intn(8))
		if r.Intn(2) == 0 {
			p = sampling(1+r.Intn(2), 1+r.Intn(3), 0)
			if p.Dir == api.Dest {
				p.Fresh = 1 + r.Intn(10)
			}
		}
		b, m := mustNew(t, p), &model{port: p}
		lean := 1 + r.Intn(9)
		for range 100 {
			data, slot := make([]byte, p.Size+r.Intn(20)/19), r.Intn(30)-1
			r.Read(data)
			if r.Intn(10) < lean {
				if x, y := put(b, p, data, slot), m.put(data, slot); x != y {
					t.Fatalf("%v: %v, not %v", p, x, y)
				}
			} else {
				x, xErr := next(b, p, slot)
				y, yErr := m.next(slot)
				if !bytes.Equal(x, y) || xErr != yErr {
					t.Fatalf("%v: %v, %v, not %v, %v", p, x, xErr, y, yErr)
				}
			}
			has(t, b, len(m.data))
			if r.Intn(5) == 0 {
				b = b.Copy()
			}
		}
	}
}
