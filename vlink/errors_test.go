package vlink_test

import (
	"testing"

	"rota/api"
	"rota/config"
	"rota/vlink"
)

// full has the byte 1 everywhere: each link has a message.
func full() payload {
	var p payload
	for i := range p {
		p[i] = 1
	}
	return p
}

// callsRefuse makes all calls of a node (the other one that Deliver names is
// beside), with functions or without, and tells of any that does not answer
// the error and zeros, or asks or hands before.
func callsRefuse(t *testing.T, c api.Config, node, beside int, functions bool, want api.Errno) {
	t.Helper()
	called := false
	take := func(int) ([]byte, bool) { called = true; return []byte{1}, true }
	arrive := func(int, []byte, int) api.Errno { called = true; return api.OK }
	if !functions {
		take, arrive = nil, nil
	}
	if p, err := vlink.Pack(c, node, take); err != want || p != (payload{}) {
		t.Errorf("pack of %d: %v, %v, not %v", node, p, err, want)
	}
	for _, pair := range [][2]int{{node, beside}, {beside, node}, {node, node}} {
		if n, err := vlink.Deliver(c, pair[0], pair[1], 9, full(), arrive); err != want || n != 0 {
			t.Errorf("from %d to %d: %d, %v, not %v", pair[0], pair[1], n, err, want)
		}
	}
	if called {
		t.Error("a function was called")
	}
	if config.Check(c) == api.OK && node >= 0 && node < c.Nodes {
		return // Unpack is handed no function: nothing is wrong for it
	}
	if l, err := vlink.Unpack(c, node, full()); err != want || len(l) != 0 {
		t.Errorf("unpack of %d: %v, %v, not %v", node, l, err, want)
	}
}

// The errors of a configuration come first, whatever else is wrong.
func TestConfigurationsThatMayNotBe(t *testing.T) {
	for want, c := range wrong() {
		if err := config.Check(c); err != want {
			t.Fatalf("%v, not %v", err, want)
		}
		for _, node := range []int{0, 2, -1, 4} {
			callsRefuse(t, c, node, 0, true, want)
			callsRefuse(t, c, node, 0, false, want)
		}
	}
	callsRefuse(t, api.Config{}, 0, 0, true, api.ErrNodes)
}

func TestNodesThatThereAreNot(t *testing.T) {
	for _, node := range append([]int{4, 5}, ends...) {
		for beside := range 4 {
			callsRefuse(t, some(), node, beside, true, api.ErrArg)
			callsRefuse(t, some(), node, beside, false, api.ErrArg)
		}
	}
	callsRefuse(t, bare(16), 16, 15, true, api.ErrArg)
	callsRefuse(t, bare(15), 15, 0, true, api.ErrArg)
}

func TestFunctionsThatAreNone(t *testing.T) {
	for node := range 4 {
		for beside := range 4 {
			callsRefuse(t, some(), node, beside, false, api.ErrArg)
		}
	}
	callsRefuse(t, bare(4), 0, 0, false, api.ErrArg)
}

// The last node there is is not refused, nor one without links or partitions.
func TestNodesThatThereAre(t *testing.T) {
	for _, nodes := range []int{4, 16} {
		c := bare(nodes)
		for node := range nodes {
			packs(t, c, node, always(1), payload{})
			unpacks(t, c, node, full())
			delivers(t, c, node, nodes-1, 0, full())
			delivers(t, c, nodes-1, node, 0, full())
		}
	}
}
