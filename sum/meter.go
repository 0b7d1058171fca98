package sum

import (
	"sync"
	"sync/atomic"
)

// Meter counts bytes and sums, and notes the first sum. Several goroutines may
// use one at once.
type Meter struct {
	made  bool
	once  sync.Once
	first uint32
	noted atomic.Bool
	bytes atomic.Uint64
	sums  atomic.Uint64
}

// NewMeter is a meter that has counted nothing.
func NewMeter() *Meter { return &Meter{made: true} }

// Add is the sum of b, which is counted.
func (m *Meter) Add(b []byte) uint32 {
	if !m.isMade() {
		return 0
	}
	s := Sum(b)
	// The note comes ahead of the counts: who sees a sum counted finds a first.
	m.once.Do(func() { m.note(s) })
	m.bytes.Add(uint64(len(b)))
	m.sums.Add(1)
	return s
}

// First is the sum that was added first; false, if none was.
func (m *Meter) First() (uint32, bool) {
	if !m.isMade() || !m.noted.Load() {
		return 0, false
	}
	return m.first, true
}

// Bytes is how many were added.
func (m *Meter) Bytes() uint64 {
	if !m.isMade() {
		return 0
	}
	return m.bytes.Load()
}

// Sums is how many were added.
func (m *Meter) Sums() uint64 {
	if !m.isMade() {
		return 0
	}
	return m.sums.Load()
}

func (m *Meter) isMade() bool { return m != nil && m.made }

// note writes first ahead of noted, so that who reads noted may read first.
func (m *Meter) note(s uint32) {
	m.first = s
	m.noted.Store(true)
}
