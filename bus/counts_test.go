package bus_test

import (
	"sync"
	"testing"

	"rota/api"
	"rota/bus"
)

// P7.2: of calls from several goroutines at once each send is counted once,
// and each call answers as if it were alone.
func TestCountsAtOnce(t *testing.T) {
	const workers, times = 16, 300
	b := mustNew(t, chapters())
	var w sync.WaitGroup
	start := make(chan struct{})
	for i := range workers {
		own, other := send(i%4, byte(i)), send((i+1)%4, 99)
		w.Go(func() {
			<-start
			for range times {
				passes(t, b, i, sends(other, own, other, own), byte(i))
				passesNone(t, b, i, other, other)
				carries(t, b, i, sends(own, other), copies(fine), all(4, byte(i))...)
				refuses(t, b, -1, sends(own, other), nil, api.ErrArg)
			}
		})
	}
	close(start)
	w.Wait()
	counts(t, b, workers*times*2, workers*times*6)
}

// P7.2: who asks while others send sees counts that only grow.
func TestCountsAskedMeanwhile(t *testing.T) {
	b := mustNew(t, chapters())
	var w sync.WaitGroup
	start := make(chan struct{})
	for range 4 {
		w.Go(func() {
			<-start
			for range 500 {
				b.Pass(0, sends(send(0, 1), send(1, 2)))
			}
		})
		w.Go(func() {
			<-start
			watch(t, b)
		})
	}
	close(start)
	w.Wait()
	counts(t, b, 2000, 2000)
}

// watch asks a bus a bounded number of times: on one processor, who asks
// without an end keeps those who send waiting.
func watch(t *testing.T, b *bus.Bus) {
	var passed, blocked uint64
	for range 500 {
		x, y := b.Passed(), b.Blocked()
		if x < passed || y < blocked || x > 2000 || y > 2000 {
			t.Errorf("%d passed, %d blocked behind %d, %d", x, y, passed, blocked)
			return
		}
		passed, blocked = x, y
	}
}
