package port_test

import (
	"bytes"
	"math"
	"testing"

	"rota/api"
	"rota/port"
)

// ends are numbers at the ends of int, and such as are small ones with bits
// above.
var ends = []int{-1, -2, -256, -1 << 32, math.MinInt, math.MinInt32, math.MaxInt, math.MaxInt32, 1 << 32, 1<<32 + 1, 1<<32 + 2, 256, 257, 258}

func queuing(dir, size, depth int) api.Port {
	return api.Port{Kind: api.Queuing, Dir: dir, Size: size, Depth: depth}
}

func sampling(dir, size, fresh int) api.Port {
	return api.Port{Kind: api.Sampling, Dir: dir, Size: size, Fresh: fresh}
}

// ports are one of each kind and direction, all of two bytes.
func ports() []api.Port {
	return []api.Port{queuing(api.Source, 2, 3), queuing(api.Dest, 2, 3), sampling(api.Source, 2, 0), sampling(api.Dest, 2, 5)}
}

// mustNew ends the test if there is no box.
func mustNew(t *testing.T, p api.Port) *port.Box {
	t.Helper()
	b, err := port.New(p)
	if err != api.OK || b == nil {
		t.Fatalf("%v: %v, %v", p, b, err)
	}
	return b
}

// Each of these tells of any other answer than the one that is wanted.

func sends(t *testing.T, b *port.Box, want api.Errno, data ...byte) {
	t.Helper()
	if err := b.Send(data); err != want {
		t.Errorf("send %v: %v, not %v", data, err, want)
	}
}

func takes(t *testing.T, b *port.Box, want ...byte) {
	t.Helper()
	if data, ok := b.Take(); !ok || !bytes.Equal(data, want) {
		t.Errorf("take: %v, %v, not %v", data, ok, want)
	}
}

func takesNone(t *testing.T, b *port.Box) {
	t.Helper()
	if data, ok := b.Take(); ok || len(data) != 0 {
		t.Errorf("take: %v, %v, not nothing", data, ok)
	}
}

func arrives(t *testing.T, b *port.Box, want api.Errno, slot int, data ...byte) {
	t.Helper()
	if err := b.Arrive(data, slot); err != want {
		t.Errorf("arrive %v in %d: %v, not %v", data, slot, err, want)
	}
}

func receives(t *testing.T, b *port.Box, slot int, want ...byte) {
	t.Helper()
	if data, err := b.Recv(slot); err != api.OK || !bytes.Equal(data, want) {
		t.Errorf("receive in %d: %v, %v, not %v", slot, data, err, want)
	}
}

func receivesNone(t *testing.T, b *port.Box, slot int, want api.Errno) {
	t.Helper()
	if data, err := b.Recv(slot); err != want || len(data) != 0 {
		t.Errorf("receive in %d: %v, %v, not %v", slot, data, err, want)
	}
}

func has(t *testing.T, b *port.Box, want int) {
	t.Helper()
	if n := b.Len(); n != want {
		t.Errorf("%d messages, not %d", n, want)
	}
}
