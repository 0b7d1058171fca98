package kern_test

import (
	"bytes"
	"math/rand"
	"reflect"
	"slices"
	"testing"

	"rota/api"
	"rota/kern"
)

// P5.5: operations and messages are only read, the room behind them too.
func TestHandedInIsOnlyRead(t *testing.T) {
	k := mustNew(t, some(), 0)
	data := []byte{1, 2, 77, 77}
	all := []api.Op{send(7, data[:2]...), write(0, 9), raise, rest, read(0)}
	all[0].Data = data[:2]
	kept := slices.Clone(all)
	for slot := range 5 {
		k.Run(0, slot, all[:2])
		k.Run(0, slot, all)
		k.Arrive(1, data[:2], slot)
	}
	if !reflect.DeepEqual(all, kept) || !bytes.Equal(data, []byte{1, 2, 77, 77}) {
		t.Errorf("%v, %v", all, data)
	}
}

// P5.5: nor are they kept.
func TestHandedInIsNotKept(t *testing.T) {
	k := mustNew(t, some(), 0)
	data := []byte{1, 2}
	ops := []api.Op{{Kind: api.OpSend, Port: 7, Data: data}}
	if _, n := k.Run(0, 0, ops); n != 1 {
		t.Fatal(n)
	}
	arrives(t, k, 1, 0, api.OK, 3, 4)
	came := []byte{5, 6}
	if err := k.Arrive(1, came, 0); err != api.OK {
		t.Fatal(err)
	}
	data[0], came[0], ops[0] = 99, 99, raise
	takes(t, k, 7, 1, 2)
	runs(t, k, 0, 0, fine(receive(1), 3, 4), fine(receive(1), 5, 6))
}

// spoil writes over all the room of some bytes.
func spoil(b []byte) {
	b = b[:cap(b)]
	for i := range b {
		b[i] = 211
	}
}

// P5.5: what is answered is new memory, each time.
func TestAnswersAreNew(t *testing.T) {
	k := mustNew(t, some(), 0)
	runs(t, k, 0, 0, fine(write(0, 5)), fine(write(3, 6)), fine(send(0, 7)))
	runs(t, k, 1, 0, fine(write(0, 8)))
	arrives(t, k, 2, 0, api.OK, 9)
	for range 3 {
		remembers(t, k, 0, 5, 0, 0, 6)
		spoil(k.Memory(0))
		spoil(k.Memory(3))
		results, _ := k.Run(0, 0, []api.Op{read(0), read(0), read(3)})
		spoil(results[0].Data)
		if !bytes.Equal(results[1].Data, []byte{5}) || !bytes.Equal(results[2].Data, []byte{6}) {
			t.Errorf("%v", results)
		}
		again, _ := k.Run(0, 1, []api.Op{rest})
		again[0].Slot = 99
		if results[0].Slot != 0 {
			t.Errorf("%v", results)
		}
		data, _ := k.Take(0)
		spoil(data)
		takes(t, k, 0, 7)
		got, _ := k.Run(1, 0, []api.Op{receive(2), receive(2), read(0)})
		spoil(got[0].Data)
		if !bytes.Equal(got[1].Data, []byte{9}) || !bytes.Equal(got[2].Data, []byte{8}) {
			t.Errorf("%v", got)
		}
		spoil(got[2].Data)
		remembers(t, k, 1, 8, 0, 0, 0)
	}
}

// P5.6: a region turns by its own writes alone, and by a restart: what grows
// out of one does not come to its neighbour.
func TestRegionsAreApart(t *testing.T) {
	k := mustNew(t, some(), 0)
	runs(t, k, 1, 0, fine(write(0, 41)), fine(write(3, 42)))
	for addr := -9; addr < 9; addr++ {
		restart := addr%2 == 0 // ahead of its being stopped
		k.Run(0, 0, []api.Op{write(addr, 7)})
		k.Run(3, 0, []api.Op{write(addr, 7)})
		_ = append(k.Memory(0), 7, 7, 7, 7)
		remembers(t, k, 1, 41, 0, 0, 42)
		if restart {
			restarts(t, k)
			remembers(t, k, 0, 0, 0, 0, 0)
			runs(t, k, 1, 0, fine(write(0, 41)), fine(write(3, 42)))
		}
	}
}

// step is something done to a kernel: a window, a message that comes or is
// taken, or a restart.
type step struct {
	do   string
	part int // whose window, or whose port it is
	port int
	slot int
	ops  []api.Op
	data []byte
}

// seen is what a step answered, and what could be seen of its partition behind.
type seen struct {
	results []api.Result
	done    int
	data    []byte
	ok      bool
	err     api.Errno
	faults  int
	stopped bool
	memory  []byte
}

func (s step) on(k *kern.Kernel) seen {
	var x seen
	switch s.do {
	case "run":
		x.results, x.done = k.Run(s.part, s.slot, s.ops)
	case "take":
		x.data, x.ok = k.Take(s.port)
	case "arrive":
		x.err = k.Arrive(s.port, s.data, s.slot)
	case "restart":
		x.err = k.Restart()
	}
	x.faults, x.stopped, x.memory = k.Faults(s.part), k.Stopped(s.part), k.Memory(s.part)
	return x
}

// anyOp is an operation by chance, mostly one that goes well.
func anyOp(r *rand.Rand) api.Op {
	data := make([]byte, []int{1, 1, 2, 2, 2, 32, 0, 3}[r.Intn(8)])
	r.Read(data)
	k := []int{api.OpRead, api.OpWrite, api.OpSend, api.OpSend, api.OpRecv, api.OpRecv, api.OpYield}[r.Intn(7)]
	addr := r.Intn(4)
	switch r.Intn(60) {
	case 0:
		k = api.OpRaise
	case 1:
		k = r.Intn(12) - 2
	case 2:
		addr = r.Intn(300) - 20
	}
	return api.Op{Kind: k, Addr: addr, Byte: byte(r.Intn(256)), Port: r.Intn(9), Data: data}
}

// anySteps are steps by chance of all partitions of a node.
func anySteps(r *rand.Rand, c api.Config, n int) []step {
	steps := make([]step, n)
	for i := range steps {
		s := step{part: r.Intn(len(c.Parts)), slot: r.Intn(12) - r.Intn(20)/19}
		switch r.Intn(5) {
		case 0, 1:
			s.do = "run"
			for range r.Intn(20) {
				s.ops = append(s.ops, anyOp(r))
			}
		case 2:
			s.do, s.port = "take", r.Intn(len(c.Ports))
		case 3:
			s.do, s.port = "arrive", r.Intn(len(c.Ports))
			s.data = make([]byte, c.Ports[s.port].Size+r.Intn(20)/19)
			r.Read(s.data)
		}
		if s.do == "take" || s.do == "arrive" {
			s.part = c.Ports[s.port].Part
		}
		if s.do == "" {
			s.do = []string{"run", "restart"}[r.Intn(20)/19]
		}
		steps[i] = s
	}
	return steps
}

// othersStep takes steps by chance, none of them one of ours.
func othersStep(r *rand.Rand, c api.Config, ours int, k *kern.Kernel) {
	for _, s := range anySteps(r, c, 3) {
		if s.part != ours && s.do != "restart" {
			s.on(k)
		}
	}
}

// P5.6: what can be seen of a partition is the same, whatever steps others
// take.
func TestPartitionsAreApart(t *testing.T) {
	r := rand.New(rand.NewSource(5))
	c := roomier()
	for range 300 {
		ours := r.Intn(len(c.Parts))
		steps := anySteps(r, c, 80)
		k, alone, other := mustNew(t, c, c.Parts[ours].Node), mustNew(t, c, c.Parts[ours].Node), mustNew(t, c, c.Parts[ours].Node)
		for i, s := range steps {
			if s.do == "restart" {
				s.part = ours
			}
			if s.part != ours {
				s.on(k)
				othersStep(r, c, ours, other)
				continue
			}
			x, y, z := s.on(k), s.on(alone), s.on(other)
			if !reflect.DeepEqual(x, y) || !reflect.DeepEqual(x, z) {
				t.Fatalf("partition %d, step %d: %v: %v, alone %v, with others %v", ours, i, s, x, y, z)
			}
		}
	}
}
