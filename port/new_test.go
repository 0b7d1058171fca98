package port_test

import (
	"testing"

	"rota/api"
	"rota/port"
)

// mayBe words the chapter's rule of ports by themselves.
func mayBe(p api.Port) bool {
	switch {
	case p.Size < 1 || p.Size > 32:
		return false
	case p.Kind == 1 && p.Dir == 1:
		return p.Depth == 0 && p.Fresh == 0
	case p.Kind == 1 && p.Dir == 2:
		return p.Depth == 0 && p.Fresh >= 1 && p.Fresh <= 65535
	case p.Kind == 2 && (p.Dir == 1 || p.Dir == 2):
		return p.Depth >= 1 && p.Depth <= 8 && p.Fresh == 0
	}
	return false
}

// isNew tells of any other answer than the one that a port must have.
func isNew(t *testing.T, p api.Port) {
	t.Helper()
	b, err := port.New(p)
	switch {
	case !mayBe(p):
		if b != nil || err != api.ErrPort {
			t.Errorf("%v: %v, %v", p, b, err)
		}
	case b == nil || err != api.OK:
		t.Errorf("%v: %v, %v", p, b, err)
	default:
		isEmpty(t, b, p)
	}
}

// isEmpty tells of a message, or of one that was lost.
func isEmpty(t *testing.T, b *port.Box, p api.Port) {
	t.Helper()
	has(t, b, 0)
	takesNone(t, b)
	want := api.ErrEmpty
	if p.Dir == api.Source {
		want = api.ErrPort
	}
	receivesNone(t, b, 0, want)
}

// P4.1: kinds and directions, with numbers at the ends of what may be.
func TestNew(t *testing.T) {
	for kind := -1; kind < 5; kind++ {
		for dir := -1; dir < 5; dir++ {
			for _, size := range []int{-1, 0, 1, 2, 31, 32, 33} {
				for _, depth := range []int{-1, 0, 1, 2, 7, 8, 9} {
					for _, fresh := range []int{-1, 0, 1, 2, 65534, 65535, 65536} {
						isNew(t, api.Port{Part: 3, Kind: kind, Dir: dir, Size: size, Depth: depth, Fresh: fresh})
					}
				}
			}
		}
	}
}

// P4.1: each number of a port that may be, turned to one at the ends of int.
func TestNewEnds(t *testing.T) {
	for _, p := range ports() {
		for _, n := range ends {
			for _, turn := range []func(*api.Port){
				func(p *api.Port) { p.Kind = n },
				func(p *api.Port) { p.Dir = n },
				func(p *api.Port) { p.Size = n },
				func(p *api.Port) { p.Depth = n },
				func(p *api.Port) { p.Fresh = n },
			} {
				x := p
				turn(&x)
				isNew(t, x)
			}
		}
	}
}

// P4.1: whose a port is is not looked at.
func TestNewOfAnyPart(t *testing.T) {
	for _, p := range ports() {
		for _, part := range append([]int{0, 1, 31, 32}, ends...) {
			p.Part = part
			isNew(t, p)
		}
	}
}

// P4.1: all sizes, depths and spans that may be are kept to.
func TestNewKeepsTo(t *testing.T) {
	for size := 1; size <= api.MaxSize; size++ {
		data := make([]byte, size)
		for depth := 1; depth <= api.MaxDepth; depth++ {
			b := mustNew(t, queuing(api.Source, size, depth))
			sends(t, b, api.ErrSize, data[1:]...)
			for range depth {
				sends(t, b, api.OK, data...)
			}
			sends(t, b, api.ErrFull, data...)
		}
	}
	for _, fresh := range []int{1, 2, 3, 100, 65534, 65535} {
		b := mustNew(t, sampling(api.Dest, 1, fresh))
		arrives(t, b, api.OK, 10, 7)
		receives(t, b, 10+fresh-1, 7)
		receivesNone(t, b, 10+fresh, api.ErrStale)
	}
}

// Types, P4.4: calls on none, and on boxes that New and Copy did not make.
func TestNoBox(t *testing.T) {
	taken := *mustNew(t, queuing(api.Source, 1, 1))
	had := mustNew(t, sampling(api.Dest, 1, 9))
	arrives(t, had, api.OK, 0, 5)
	takenToo := *had
	for name, b := range map[string]*port.Box{"nil": nil, "zero": {}, "new": new(port.Box), "its fields": &taken, "a full one's fields": &takenToo} {
		for range 2 {
			if err := b.Send([]byte{5}); err != api.ErrNil {
				t.Errorf("%s: send: %v", name, err)
			}
			if err := b.Arrive([]byte{5}, 0); err != api.ErrNil {
				t.Errorf("%s: arrive: %v", name, err)
			}
			if data, err := b.Recv(0); err != api.ErrNil || len(data) != 0 {
				t.Errorf("%s: receive: %v, %v", name, data, err)
			}
			if data, ok := b.Take(); ok || len(data) != 0 {
				t.Errorf("%s: take: %v, %v", name, data, ok)
			}
			if n := b.Len(); n != 0 {
				t.Errorf("%s: %d messages", name, n)
			}
			if c := b.Copy(); c != nil {
				t.Errorf("%s: a copy: %v", name, c)
			}
			// Ahead of what is wrong besides.
			if b.Send(nil) != api.ErrNil || b.Arrive(nil, -1) != api.ErrNil {
				t.Errorf("%s: wrong calls", name)
			}
			if _, err := b.Recv(-1); err != api.ErrNil {
				t.Errorf("%s: receive in -1: %v", name, err)
			}
		}
	}
	receives(t, had, 0, 5)
}
