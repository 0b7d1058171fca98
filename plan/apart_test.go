package plan_test

import (
	"reflect"
	"slices"
	"testing"

	"rota/api"
	"rota/plan"
)

// withRoom is l with room behind it, in which marks stand.
func withRoom[T any](l []T, mark T) []T {
	n := len(l)
	return slices.Concat(l, slices.Repeat([]T{mark}, 4))[: n : n+4]
}

func roomy(d api.Demand) api.Demand {
	d = copied(d)
	d.Tasks = withRoom(d.Tasks, api.Task{Node: -77})
	for i := range d.Streams {
		d.Streams[i].To = withRoom(d.Streams[i].To, -77)
	}
	d.Streams = withRoom(d.Streams, api.Stream{From: -77, To: []int{-77}})
	return d
}

// whole is d with its lists as long as their room.
func whole(d api.Demand) api.Demand {
	d.Tasks = d.Tasks[:cap(d.Tasks)]
	d.Streams = slices.Clone(d.Streams[:cap(d.Streams)])
	for i := range d.Streams {
		d.Streams[i].To = d.Streams[i].To[:cap(d.Streams[i].To)]
	}
	return d
}

// P17.3: what is handed in stays as it is, and so does the room behind its end.
func TestOnlyRead(t *testing.T) {
	for _, d := range some() {
		d = roomy(d)
		was := copied(whole(d))
		plan.Make(d)
		plan.May(d)
		plan.Load(d)
		if !reflect.DeepEqual(whole(d), was) {
			t.Fatalf("%+v was %+v", whole(d), was)
		}
	}
}

// numbersIn are all lists of numbers of a plan, the room behind their ends too.
func numbersIn(c api.Config) [][]int {
	l := [][]int{c.Owners[:cap(c.Owners)]}
	for _, w := range c.Windows {
		l = append(l, w[:cap(w)])
	}
	for _, k := range c.Links {
		l = append(l, k.Dests[:cap(k.Dests)])
	}
	return l
}

// apart says whether lists share nothing: into each one a number of its own is written.
func apart(lists [][]int) bool {
	for i, l := range lists {
		for j := range l {
			l[j] = 1000 + i
		}
	}
	for i, l := range lists {
		for _, n := range l {
			if n != 1000+i {
				return false
			}
		}
	}
	return true
}

// P17.3: what is answered is new memory: none of it is shared with what was handed in,
// with another answer, or with another list of its own.
func TestAnswersAreNew(t *testing.T) {
	for _, d := range some()[:300] {
		was := copied(d)
		c, err := plan.Make(d)
		other, _ := plan.Make(d)
		if err == api.OK {
			if !apart(append(numbersIn(c), numbersIn(other)...)) {
				t.Fatalf("lists of the plan of %+v are one", d)
			}
			for _, x := range []api.Config{c, other} {
				clear(x.Parts[:cap(x.Parts)])
				clear(x.Ports[:cap(x.Ports)])
			}
			isPlan(t, d, planOf(d))
		}
		memory, shares, payload := plan.Load(d)
		m, s, p := plan.Load(d)
		l := [][]int{memory, shares, payload, m, s, p}
		for i := range l {
			l[i] = l[i][:cap(l[i])]
		}
		if !apart(l) || !reflect.DeepEqual(d, was) {
			t.Fatalf("%+v was %+v", d, was)
		}
	}
}

// P17.3: what was handed in is not kept: what becomes of it behind a call turns no
// answer; and the lists of parts and ports are not those of another plan.
func TestNothingIsKept(t *testing.T) {
	for _, d := range []api.Demand{ofTheChapter(), full(), narrow(31, 31)} {
		want := planOf(d)
		given := copied(d)
		c, err := plan.Make(given)
		other, _ := plan.Make(given)
		memory, shares, payload := plan.Load(given)
		for _, s := range given.Streams {
			clear(s.To)
		}
		clear(given.Tasks)
		clear(given.Streams)
		clear(other.Parts[:cap(other.Parts)])
		clear(other.Ports[:cap(other.Ports)])
		if err != api.OK || !same(c, want) {
			t.Errorf("%+v, %v", c, err)
		}
		isLoad(t, d, memory, shares, payload)
	}
}
