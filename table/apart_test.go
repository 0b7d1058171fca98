package table_test

import (
	"math/rand"
	"reflect"
	"testing"
	"unsafe"

	"rota/api"
	"rota/table"
)

// roomy is a configuration whose lists have room behind their ends.
func roomy() api.Config {
	c := whole()
	c.Owners = append(c.Owners, 90, 91)[:4]
	c.Parts = append(c.Parts, api.Part{Node: 92})[:2]
	c.Windows = append(c.Windows, []int{93})[:3]
	c.Windows[0] = append(c.Windows[0], 94)[:3]
	c.Ports = append(c.Ports, api.Port{Part: 95})[:2]
	c.Links = append(c.Links, api.Link{Source: 96})[:2]
	c.Links[0].Dests = append(c.Links[0].Dests, 97)[:2]
	return c
}

// stretched is a configuration with the rooms behind its lists' ends.
func stretched(c api.Config) api.Config {
	c.Owners, c.Parts, c.Ports = c.Owners[:6], c.Parts[:3], c.Ports[:3]
	c.Windows = append([][]int(nil), c.Windows[:4]...)
	c.Windows[0] = c.Windows[0][:4]
	c.Links = append([]api.Link(nil), c.Links[:3]...)
	c.Links[0].Dests = c.Links[0].Dests[:3]
	return c
}

// P15.4: what is handed in is only read, and so is the room behind its ends.
func TestOnlyRead(t *testing.T) {
	a, b := roomy(), roomy()
	want := stretched(roomy())
	if _, err := table.Text(a); err != api.OK {
		t.Fatal(err)
	}
	table.Same(a, b)
	a.Quota = most
	table.Text(a)
	table.Same(a, b)
	a.Quota = b.Quota
	if !reflect.DeepEqual(stretched(a), want) || !reflect.DeepEqual(stretched(b), want) {
		t.Error(a, b)
	}
}

// P15.4: two answers share nothing, and no two lists of one do.
func TestNewMemory(t *testing.T) {
	r := rand.New(rand.NewSource(1504))
	for range 300 {
		s, _, _ := laid(r, someTexts(r))
		a, _, _, _ := table.Parse(s)
		b, _, _, _ := table.Parse(s)
		was := plain(b)
		for _, p := range pointers(&a) {
			*p = -77
		}
		a.Owners = append(a.Owners, -77)
		for i := range a.Windows {
			_ = append(a.Windows[i], -77)
		}
		for i := range a.Links {
			_ = append(a.Links[i].Dests, -77)
		}
		if !same(b, was) {
			t.Fatal(s)
		}
		apart(t, b)
	}
}

// apart holds the lists of one configuration against each other: what is behind the end
// of one, too, is no other one's.
func apart(t *testing.T, c api.Config) {
	t.Helper()
	lists := append([][]int{c.Owners}, c.Windows...)
	for _, l := range c.Links {
		lists = append(lists, l.Dests)
	}
	seen := map[*int]bool{}
	for _, l := range lists {
		for i := range l[:cap(l)] {
			p := &l[:cap(l)][i]
			if seen[p] {
				t.Fatal(c)
			}
			seen[p] = true
		}
	}
}

// P15.4: a text is bytes of its own each time.
func TestOwnText(t *testing.T) {
	a, _ := table.Text(whole())
	b, _ := table.Text(whole())
	if unsafe.StringData(a) == unsafe.StringData(b) {
		t.Error("one text twice")
	}
}
