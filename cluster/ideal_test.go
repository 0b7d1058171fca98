package cluster_test

import (
	"testing"

	"rota/api"
	"rota/kern"
)

// ideal is nodes' kernels without a bus between them: what a node that belongs
// sends is at once in the ports of all who belong.
type ideal struct {
	c       api.Config
	kernels []*kern.Kernel
	rest    [][]api.Op
	// sound are the nodes on which operations are to come to what they do here:
	// who belongs, and who was started since it last did.
	sound  uint16
	wanted [][]wanted
}

// wanted is what an operation ought to come to, if that is known.
type wanted struct {
	is     bool
	result api.Result
}

func newIdeal(t *testing.T, c api.Config, streams [][]api.Op) *ideal {
	t.Helper()
	s := &ideal{c: c, rest: append([][]api.Op{}, streams...), sound: all(c), wanted: make([][]wanted, len(c.Parts))}
	for id := range c.Nodes {
		kernel, err := kern.New(c, id)
		if err != api.OK {
			t.Fatal(err)
		}
		s.kernels = append(s.kernels, kernel)
	}
	return s
}

// run starts anew whom the choice does, and runs the slot's windows.
func (s *ideal) run(slot int, x api.Choice) {
	s.sound |= x.Restart
	for id, kernel := range s.kernels {
		if x.Restart>>id&1 == 1 {
			kernel.Restart()
		}
		part := s.c.Windows[id][slot%s.c.Nodes]
		if part < 0 {
			continue
		}
		results, used := kernel.Run(part, slot, s.rest[part])
		s.rest[part] = s.rest[part][used:]
		for _, result := range results {
			s.wanted[part] = append(s.wanted[part], wanted{s.sound>>id&1 == 1, result})
		}
	}
}

func (s *ideal) nodeOf(port int) int { return s.c.Parts[s.c.Ports[port].Part].Node }

// send brings what the owner sends, if it belongs, to all who do.
func (s *ideal) send(slot, owner int, belong uint16) {
	for _, l := range s.c.Links {
		if s.nodeOf(l.Source) != owner {
			continue
		}
		data, ok := s.kernels[owner].Take(l.Source)
		if !ok || belong>>owner&1 == 0 {
			continue
		}
		for _, d := range l.Dests {
			if id := s.nodeOf(d); belong>>id&1 == 1 {
				s.kernels[id].Arrive(d, data, slot)
			}
		}
	}
}
