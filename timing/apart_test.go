package timing_test

import (
	"reflect"
	"slices"
	"sync"
	"testing"

	"rota/api"
	"rota/timing"
)

// withRoom is l with room behind it, in which marks stand.
func withRoom[T any](l []T, mark T) []T {
	n := len(l)
	return slices.Concat(l, slices.Repeat([]T{mark}, 4))[: n : n+4]
}

func roomy(c api.Config) api.Config {
	c = copied(c)
	c.Owners = withRoom(c.Owners, -77)
	c.Parts = withRoom(c.Parts, api.Part{Node: -77})
	for i := range c.Windows {
		c.Windows[i] = withRoom(c.Windows[i], -77)
	}
	c.Windows = withRoom(c.Windows, []int{-77})
	c.Ports = withRoom(c.Ports, api.Port{Part: -77})
	for i := range c.Links {
		c.Links[i].Dests = withRoom(c.Links[i].Dests, -77)
	}
	c.Links = withRoom(c.Links, api.Link{Source: -77, Dests: []int{-77}})
	return c
}

// whole is c with its lists as long as their room.
func whole(c api.Config) api.Config {
	c.Owners = c.Owners[:cap(c.Owners)]
	c.Parts = c.Parts[:cap(c.Parts)]
	c.Ports = c.Ports[:cap(c.Ports)]
	c.Windows = slices.Clone(c.Windows[:cap(c.Windows)])
	for i := range c.Windows {
		c.Windows[i] = c.Windows[i][:cap(c.Windows[i])]
	}
	c.Links = slices.Clone(c.Links[:cap(c.Links)])
	for i := range c.Links {
		c.Links[i].Dests = c.Links[i].Dests[:cap(c.Links[i].Dests)]
	}
	return c
}

// all are the answers of each call, of as much as there is, and of a bit more.
func all(c api.Config, links []int) []int {
	var l []int
	note := func(n int, err api.Errno) { l = append(l, n, int(err)) }
	for part := range len(c.Parts) + 1 {
		note(timing.Runs(c, part, 1))
		note(timing.Share(c, part))
		note(timing.Pause(c, part))
	}
	for node := range 7 {
		note(timing.Sends(c, node, 1))
		note(timing.Load(c, node))
	}
	for link := range len(c.Links) + 1 {
		for place := range 4 {
			note(timing.Delay(c, link, place, 1))
			note(timing.Worst(c, link, place))
		}
	}
	note(timing.Chain(c, links, 1))
	note(timing.Chain(c, links, -1))
	return l
}

// P18.4: what is handed in stays as it is, and so does the room behind its end.
func TestOnlyRead(t *testing.T) {
	for _, c := range append(some()[:100], api.Config{}, turned()[api.ErrWindows], turned()[api.ErrLinks]) {
		c = roomy(c)
		was := copied(whole(c))
		links := withRoom([]int{2, 0, 0}, -77)
		all(c, links)
		if !reflect.DeepEqual(whole(c), was) || !slices.Equal(links[:7], []int{2, 0, 0, -77, -77, -77, -77}) {
			t.Fatalf("%+v was %+v; %v", whole(c), was, links[:7])
		}
	}
}

// slide puts all that is in a slot of a round into the next one.
func slide(c api.Config) {
	for _, l := range append(c.Windows, c.Owners) {
		last := l[len(l)-1]
		copy(l[1:], l)
		l[0] = last
	}
}

// P18.4: what was handed in is not kept: what becomes of it behind a call is seen by the
// next one, and turns no other answer; nor do calls with others between, or at once.
func TestNothingIsKept(t *testing.T) {
	links := []int{0, 2}
	want, others := all(full(), links), all(ofTheChapter(), links)
	given := full()
	for by := range given.Nodes {
		isRuns(t, given, 2, by, 2+by, api.OK)
		isSends(t, given, 5, by, 2+by, api.OK)
		isDelay(t, given, 0, 0, 4+by, 7, api.OK)
		isChain(t, given, []int{0}, by, 5+by, api.OK)
		if l := all(full(), links); !slices.Equal(l, want) {
			t.Errorf("%v, not %v", l, want)
		}
		slide(given)
	}
	links[0], links[1] = 2, 2
	isChain(t, given, links, 0, 15, api.OK)
	links[0], links[1] = 0, 2
	var w sync.WaitGroup
	for range 8 {
		w.Go(func() {
			for range 20 {
				if l := all(full(), links); !slices.Equal(l, want) {
					t.Errorf("%v, not %v", l, want)
				}
				if l := all(ofTheChapter(), links); !slices.Equal(l, others) {
					t.Errorf("%v, not %v", l, others)
				}
			}
		})
	}
	w.Wait()
}
