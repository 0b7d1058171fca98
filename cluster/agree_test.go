package cluster_test

import (
	"math/rand"
	"testing"

	"rota/api"
	"rota/config"
)

// underH lets clusters by chance run under the fault hypothesis, and has each
// slot, and each run, looked at.
func underH(t *testing.T, seed int64, behindSlot, behindRun func(s *course)) {
	t.Helper()
	r := rand.New(rand.NewSource(seed))
	events, backs := 0, 0
	for range 100 {
		c := anyConfig(r)
		slots := 40 * c.Nodes
		s := newCourse(t, r, c, slots)
		for range slots {
			s.pass(t)
			behindSlot(s)
		}
		behindRun(s)
		events, backs = events+s.events, backs+s.backs
	}
	if events < 700 || backs < 500 {
		t.Errorf("%d events, %d came back", events, backs)
	}
}

func notAtAll(*course) {}

// P0.1: all who belong are Active, with one vector, in which they all are; and
// who does not, for two rounds, is neither.
func TestTheyAgree(t *testing.T) {
	underH(t, 1, func(s *course) {
		slot := s.k.Slot() - 1
		vector := s.k.Vector(bitsOf(s.belong)[0])
		for id := range s.c.Nodes {
			isActive, isIn := s.k.State(id) == api.Active, vector>>id&1 == 1
			isLate := slot-s.lost[id] < 2*s.c.Nodes
			switch {
			case s.belongs(id) && (!isActive || !isIn || s.k.Vector(id) != vector):
				t.Fatalf("slot %d: node %d belongs: %+v; %b do, vector %b", slot, id, look(s.k, id), s.belong, vector)
			case !s.belongs(id) && !isLate && (isActive || isIn):
				t.Fatalf("slot %d: node %d does not belong since %d: %+v; vector %b", slot, id, s.lost[id], look(s.k, id), vector)
			}
		}
	}, notAtAll)
}

// P0.3: what operations come to, on nodes that belong, and on such as were
// started, is what they come to where there is no bus.
func TestAsIfThereWereNoBus(t *testing.T) {
	came := 0
	underH(t, 3, notAtAll, func(s *course) {
		for part, l := range s.ideal.wanted {
			trace := s.k.Trace(part)
			if len(trace) != len(l) {
				t.Fatalf("partition %d: %d results, not %d", part, len(trace), len(l))
			}
			for i, w := range l {
				if w.is && !isSameResult(trace[i], w.result) {
					t.Fatalf("partition %d: result %d: %v, not %v", part, i, trace[i], w.result)
				}
				if w.is && len(w.result.Data) > 0 {
					came++
				}
			}
		}
	})
	if came < 20000 {
		t.Errorf("%d messages and bytes", came)
	}
}

// P0.5: the clocks of all who belong are at most Precision apart.
func TestInTime(t *testing.T) {
	near := 0
	underH(t, 5, func(s *course) {
		least, most := far, -far
		for _, id := range bitsOf(s.belong) {
			least, most = min(least, s.k.Offset(id)), max(most, s.k.Offset(id))
		}
		if most-least > config.Precision(s.c) {
			t.Fatalf("slot %d: clocks from %d to %d", s.k.Slot()-1, least, most)
		}
		if 2*(most-least) > config.Precision(s.c) {
			near++
		}
	}, notAtAll)
	if near < 2500 {
		t.Errorf("in %d slots clocks are half as far apart as they may be", near)
	}
}
