package kern

import (
	"bytes"
	"iter"

	"rota/api"
	"rota/port"
)

// partition has all that its operations can come to, and nothing else: that is
// what keeps it apart from others.
type partition struct {
	region []byte
	boxes  map[int]*port.Box
	faults int
}

// deed is what an operation of one kind does.
type deed func(p *partition, op api.Op, slot int) ([]byte, api.Errno)

// deeds tells them by kind.
func deeds() map[int]deed {
	return map[int]deed{
		api.OpRead:  (*partition).read,
		api.OpWrite: (*partition).write,
		api.OpSend:  (*partition).send,
		api.OpRecv:  (*partition).receive,
		api.OpRaise: (*partition).raise,
		api.OpYield: (*partition).rest,
	}
}

// results tells what operations come to, one after the other. Each is done when
// it is asked for, and those that nobody asks for are not done.
func (p *partition) results(ops []api.Op, slot int) iter.Seq2[api.Op, api.Result] {
	does := deeds()
	return func(yield func(api.Op, api.Result) bool) {
		for _, op := range ops {
			data, err := p.do(does[op.Kind], op, slot)
			if !yield(op, api.Result{Slot: slot, Err: err, Data: data}) {
				return
			}
		}
	}
}

// do does what an operation's kind does, if there is such a kind, and counts
// the faults.
func (p *partition) do(does deed, op api.Op, slot int) ([]byte, api.Errno) {
	if p.isStopped() {
		return nil, api.ErrStopped
	}
	if does == nil {
		return nil, api.ErrOp
	}
	data, err := does(p, op, slot)
	if err == api.ErrFault || err == api.ErrRaised {
		p.faults++
	}
	return data, err
}

func (p *partition) isStopped() bool { return p.faults >= api.MaxFaults }

func (p *partition) memory() []byte { return bytes.Clone(p.region) }

func (p *partition) has(address int) bool { return 0 <= address && address < len(p.region) }

func (p *partition) read(op api.Op, _ int) ([]byte, api.Errno) {
	if !p.has(op.Addr) {
		return nil, api.ErrFault
	}
	return []byte{p.region[op.Addr]}, api.OK
}

func (p *partition) write(op api.Op, _ int) ([]byte, api.Errno) {
	if !p.has(op.Addr) {
		return nil, api.ErrFault
	}
	p.region[op.Addr] = op.Byte
	return nil, api.OK
}

func (p *partition) send(op api.Op, _ int) ([]byte, api.Errno) {
	box, ok := p.boxes[op.Port]
	if !ok {
		return nil, api.ErrPort
	}
	return nil, box.Send(op.Data)
}

func (p *partition) receive(op api.Op, slot int) ([]byte, api.Errno) {
	box, ok := p.boxes[op.Port]
	if !ok {
		return nil, api.ErrPort
	}
	return box.Recv(slot)
}

func (p *partition) raise(api.Op, int) ([]byte, api.Errno) { return nil, api.ErrRaised }

// rest does nothing: that the window ends is seen to by who runs it.
func (p *partition) rest(api.Op, int) ([]byte, api.Errno) { return nil, api.OK }
