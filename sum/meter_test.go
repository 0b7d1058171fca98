package sum_test

import (
	"slices"
	"sync"
	"testing"

	"rota/sum"
)

// tells fails unless the meter answers just this.
func tells(t *testing.T, m *sum.Meter, first uint32, noted bool, bytes, sums uint64) {
	t.Helper()
	if n, ok := m.First(); n != first || ok != noted {
		t.Errorf("first: %08x %v, not %08x %v", n, ok, first, noted)
	}
	if n := m.Bytes(); n != bytes {
		t.Errorf("bytes: %d, not %d", n, bytes)
	}
	if n := m.Sums(); n != sums {
		t.Errorf("sums: %d, not %d", n, sums)
	}
}

// P1.2: a new meter has counted nothing, and asking does not count.
func TestNewMeter(t *testing.T) {
	m := sum.NewMeter()
	tells(t, m, 0, false, 0, 0)
	tells(t, m, 0, false, 0, 0)
}

// P1.2: Add answers the sum, and counts; the first one stays the first.
func TestAdd(t *testing.T) {
	m := sum.NewMeter()
	bytes := uint64(0)
	first := sum.Sum(someBytes(7, 7))
	for i := 0; i < 100; i++ {
		b := someBytes(int64(i+7), (i+7)%13)
		if n, want := m.Add(b), sum.Sum(b); n != want {
			t.Errorf("%d: %08x, not %08x", i, n, want)
		}
		bytes += uint64(len(b))
		tells(t, m, first, true, bytes, uint64(i+1))
	}
}

// P1.2: the same bytes again are counted again.
func TestAddAgain(t *testing.T) {
	m := sum.NewMeter()
	for i := uint64(1); i < 5; i++ {
		if n := m.Add([]byte("123456789")); n != 0xCBF43926 {
			t.Errorf("%08x", n)
		}
		tells(t, m, 0xCBF43926, true, 9*i, i)
	}
}

// P1.2: of nothing there is a sum too: it is 0, it is counted, and it is the
// first one, if it was added first.
func TestAddNothing(t *testing.T) {
	for _, none := range [][]byte{nil, {}, []byte("abc")[:0]} {
		m := sum.NewMeter()
		if n := m.Add(none); n != 0 {
			t.Errorf("%08x", n)
		}
		tells(t, m, 0, true, 0, 1)
		m.Add([]byte("a"))
		tells(t, m, 0, true, 1, 2)
		m.Add(none)
		tells(t, m, 0, true, 1, 3)
	}
}

// P1.2: just what stands in the list is counted, not the room behind it.
func TestAddCountsNoRoom(t *testing.T) {
	m := sum.NewMeter()
	m.Add(make([]byte, 3, 50))
	tells(t, m, sum.Sum(make([]byte, 3)), true, 3, 1)
}

// P1.2: each meter counts its own, and sums that no meter makes are not counted.
func TestMetersApart(t *testing.T) {
	a, b := sum.NewMeter(), sum.NewMeter()
	a.Add([]byte("a"))
	sum.Sum([]byte("b"))
	sum.More(5, []byte("b"))
	tells(t, a, 0xE8B7BE43, true, 1, 1)
	tells(t, b, 0, false, 0, 0)
	b.Add([]byte("123456789"))
	tells(t, a, 0xE8B7BE43, true, 1, 1)
	tells(t, b, 0xCBF43926, true, 9, 1)
}

// P1.3: what was added is not kept: turning it later turns nothing.
func TestAddedIsNotKept(t *testing.T) {
	m := sum.NewMeter()
	b := []byte("a")
	m.Add(b)
	b[0] = 'b'
	tells(t, m, 0xE8B7BE43, true, 1, 1)
}

// Types: a meter that NewMeter did not make, and none, answer 0 and false, and
// never begin to count.
func TestNoMeter(t *testing.T) {
	for _, m := range []*sum.Meter{nil, {}, new(sum.Meter)} {
		tells(t, m, 0, false, 0, 0)
		for _, b := range [][]byte{nil, {}, []byte("a"), make([]byte, 100)} {
			if n := m.Add(b); n != 0 {
				t.Errorf("%08x", n)
			}
			tells(t, m, 0, false, 0, 0)
		}
	}
	var z sum.Meter
	z.Add([]byte("a"))
	tells(t, &z, 0, false, 0, 0)
}

// P1.2: several goroutines at one meter: nothing is lost, and the first is one
// of those that were added.
func TestMeterAtOnce(t *testing.T) {
	const workers, times = 16, 200
	m := sum.NewMeter()
	var firsts []uint32
	var w sync.WaitGroup
	start := make(chan struct{})
	for i := range workers {
		b := someBytes(int64(i), i)
		firsts = append(firsts, sum.Sum(b))
		w.Add(1)
		go func() {
			defer w.Done()
			<-start
			for range times {
				if m.Add(b) != sum.Sum(b) {
					t.Error("another sum")
				}
			}
		}()
	}
	close(start)
	w.Wait()
	n, ok := m.First()
	if !ok || !slices.Contains(firsts, n) {
		t.Errorf("first: %08x %v", n, ok)
	}
	tells(t, m, n, true, times*workers*(workers-1)/2, times*workers)
}

// P1.2: who asks while others add sees counts that only grow, and one first
// that stays; and once a sum is counted there is a first.
func TestMeterAskedMeanwhile(t *testing.T) {
	for range 500 {
		m := sum.NewMeter()
		var w sync.WaitGroup
		start := make(chan struct{})
		for i := range 4 {
			w.Add(2)
			go func() {
				defer w.Done()
				<-start
				for range 10 {
					m.Add([]byte{byte(i)})
				}
			}()
			go func() {
				defer w.Done()
				<-start
				watch(t, m)
			}()
		}
		close(start)
		w.Wait()
		if m.Sums() != 40 || m.Bytes() != 40 {
			t.Errorf("%d sums, %d bytes", m.Sums(), m.Bytes())
		}
	}
}

// watch asks a meter a bounded number of times: on one processor, who asks
// without an end keeps those who add waiting.
func watch(t *testing.T, m *sum.Meter) {
	var first uint32
	var noted bool
	var bytes, sums uint64
	for range 500 {
		x, y := m.Bytes(), m.Sums()
		n, ok := m.First()
		if x < bytes || y < sums || noted && (!ok || n != first) || y > 0 && !ok || !ok && n != 0 {
			t.Errorf("%d bytes, %d sums, %08x %v behind %d, %d, %08x %v", x, y, n, ok, bytes, sums, first, noted)
			return
		}
		bytes, sums, first, noted = x, y, n, ok
	}
}

// P1.2: behind one Add that has ended, another one is not the first.
func TestFirstIsTheFirst(t *testing.T) {
	for i := range 100 {
		m := sum.NewMeter()
		m.Add([]byte{byte(i)})
		var w sync.WaitGroup
		for range 4 {
			w.Add(1)
			go func() {
				defer w.Done()
				m.Add([]byte("later"))
			}()
		}
		w.Wait()
		tells(t, m, sum.Sum([]byte{byte(i)}), true, 21, 5)
	}
}
