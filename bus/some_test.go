package bus_test

import (
	"bytes"
	"math"
	"testing"

	"rota/api"
	"rota/bus"
)

// ends are numbers at the ends of int, and such as are small ones with bits
// above.
var ends = []int{-1, -2, math.MinInt, math.MinInt32, math.MaxInt, math.MaxInt32, 1 << 32, 1<<32 + 1, 256, 257}

// below are such as are no slot.
var below = []int{-1, -2, -3, -4, -5, -1 << 32, math.MinInt32, math.MinInt, math.MinInt + 1}

// bare is of a node for each owner, without partitions.
func bare(owners ...int) api.Config {
	c := api.Config{Nodes: len(owners), Owners: owners, Margin: 60, Bound: 60, Rejoin: 1, Quota: 1}
	for range owners {
		row := make([]int, len(owners))
		for i := range row {
			row[i] = -1
		}
		c.Windows = append(c.Windows, row)
	}
	return c
}

// chapters is the configuration of the chapter's examples.
func chapters() api.Config { return bare(0, 1, 2, 3) }

// some is one whose owners are not in the order of their numbers.
func some() api.Config { return bare(2, 0, 1, 3) }

// widest has as many nodes as may be.
func widest() api.Config { return bare(15, 3, 0, 7, 1, 14, 2, 13, 4, 12, 5, 11, 6, 10, 8, 9) }

// mustNew ends the test if there is no bus.
func mustNew(t *testing.T, c api.Config) *bus.Bus {
	t.Helper()
	b, err := bus.New(c)
	if err != api.OK || b == nil {
		t.Fatalf("%v, %v", b, err)
	}
	return b
}

func send(node int, b ...byte) api.Send { return api.Send{Node: node, Bytes: b} }

func sends(l ...api.Send) []api.Send { return l }

// What becomes of copies.

var (
	fine = api.Copy{Kind: api.CopyFine}
	lost = api.Copy{Kind: api.CopyLost}
)

func burst(at int, mask uint32) api.Copy { return api.Copy{Kind: api.CopyBurst, At: at, Mask: mask} }

func copies(l ...api.Copy) []api.Copy { return l }

// Each of these tells of any other answer than the one that is wanted.

func passes(t *testing.T, b *bus.Bus, slot int, l []api.Send, want ...byte) {
	t.Helper()
	got, ok := b.Pass(slot, l)
	if !ok || !bytes.Equal(got, want) {
		t.Errorf("pass in %d of %v: %v, %v, not %v", slot, l, got, ok, want)
	}
}

func passesNone(t *testing.T, b *bus.Bus, slot int, l ...api.Send) {
	t.Helper()
	if got, ok := b.Pass(slot, l); ok || len(got) != 0 {
		t.Errorf("pass in %d of %v: %v, %v, not nothing", slot, l, got, ok)
	}
}

func counts(t *testing.T, b *bus.Bus, passed, blocked uint64) {
	t.Helper()
	if p, n := b.Passed(), b.Blocked(); p != passed || n != blocked {
		t.Errorf("%d passed, %d blocked, not %d, %d", p, n, passed, blocked)
	}
}

// carries wants nil where nothing is received, and just there.
func carries(t *testing.T, b *bus.Bus, slot int, l []api.Send, by []api.Copy, want ...[]byte) {
	t.Helper()
	got, err := b.Carry(slot, l, by)
	if err != api.OK || !isSame(got, want) {
		t.Errorf("carry in %d of %v by %v: %#v, %v, not %#v", slot, l, by, got, err, want)
	}
}

// isSame says whether nodes receive the same; no bytes are not nothing.
func isSame(a, b [][]byte) bool {
	if len(a) != len(b) {
		return false
	}
	for n := range a {
		if (a[n] == nil) != (b[n] == nil) || !bytes.Equal(a[n], b[n]) {
			return false
		}
	}
	return true
}

func refuses(t *testing.T, b *bus.Bus, slot int, l []api.Send, by []api.Copy, want api.Errno) {
	t.Helper()
	if got, err := b.Carry(slot, l, by); err != want || len(got) != 0 {
		t.Errorf("carry in %d of %v by %v: %v, %v, not %v", slot, l, by, got, err, want)
	}
}
