package table_test

import (
	"math/rand"
	"testing"

	"rota/api"
	"rota/table"
)

func isSame(t *testing.T, a, b api.Config, want bool) {
	t.Helper()
	if table.Same(a, b) != want || table.Same(b, a) != want {
		t.Errorf("Same(%+v, %+v) is not %v", a, b, want)
	}
}

// P15.3: each number, at any place, tells two apart.
func TestSameNumbers(t *testing.T) {
	isSame(t, whole(), whole(), true)
	for i := range pointers(new(whole())) {
		for _, n := range []int{1, -1, 1 << 32, most, least} {
			a, b := whole(), whole()
			*pointers(&a)[i] += n
			isSame(t, a, b, false)
			*pointers(&b)[i] += n
			isSame(t, a, b, true)
		}
	}
}

// P15.3: how long each list is, and its order, tells two apart.
func TestSameLists(t *testing.T) {
	for _, change := range []func(c *api.Config){
		func(c *api.Config) { c.Owners = c.Owners[:3] },
		func(c *api.Config) { c.Owners = nil },
		func(c *api.Config) { c.Owners = append(c.Owners, 0) },
		func(c *api.Config) { c.Owners[0], c.Owners[1] = c.Owners[1], c.Owners[0] },
		func(c *api.Config) { c.Parts = c.Parts[:1] },
		func(c *api.Config) { c.Parts = append(c.Parts, api.Part{}) },
		func(c *api.Config) { c.Parts[0], c.Parts[1] = c.Parts[1], c.Parts[0] },
		func(c *api.Config) { c.Windows = c.Windows[:2] },
		func(c *api.Config) { c.Windows = append(c.Windows, nil) },
		func(c *api.Config) { c.Windows[0] = c.Windows[0][:2] },
		func(c *api.Config) { c.Windows[1] = []int{0} },
		func(c *api.Config) { c.Windows[0], c.Windows[2] = c.Windows[2], c.Windows[0] },
		func(c *api.Config) { c.Ports = c.Ports[:1] },
		func(c *api.Config) { c.Ports = append(c.Ports, api.Port{}) },
		func(c *api.Config) { c.Ports[0], c.Ports[1] = c.Ports[1], c.Ports[0] },
		func(c *api.Config) { c.Links = c.Links[:1] },
		func(c *api.Config) { c.Links = append(c.Links, api.Link{}) },
		func(c *api.Config) { c.Links[0].Dests = nil },
		func(c *api.Config) { c.Links[1].Dests = []int{0} },
		func(c *api.Config) { c.Links[0].Dests[0], c.Links[0].Dests[1] = 52, 51 },
		func(c *api.Config) { c.Links[0], c.Links[1] = c.Links[1], c.Links[0] },
	} {
		a, b := whole(), whole()
		change(&a)
		isSame(t, a, b, false)
		change(&b)
		isSame(t, a, b, true)
	}
}

// P15.3: lists that are nil are as empty ones, those in lists, too.
func TestSameEmpty(t *testing.T) {
	empty := api.Config{Owners: []int{}, Parts: []api.Part{}, Windows: [][]int{}, Ports: []api.Port{}, Links: []api.Link{}}
	isSame(t, api.Config{}, empty, true)
	isSame(t, empty, empty, true)
	isSame(t, api.Config{}, api.Config{}, true)
	isSame(t, api.Config{Windows: [][]int{nil}}, api.Config{Windows: [][]int{{}}}, true)
	isSame(t, api.Config{Windows: [][]int{nil}}, api.Config{}, false)
	isSame(t, api.Config{Links: []api.Link{{}}}, api.Config{Links: []api.Link{{Dests: []int{}}}}, true)
}

// P15.3: of any two the answer is that of all pieces, one by one.
func TestSameLikeModel(t *testing.T) {
	r := rand.New(rand.NewSource(1503))
	for range 20000 {
		a := someConfig(r)
		b := plain(a)
		isSame(t, a, b, true)
		if l := pointers(&b); r.Intn(2) == 0 {
			*l[r.Intn(len(l))] = someNumber(r)
		} else {
			b = someConfig(r)
		}
		isSame(t, a, b, same(a, b))
	}
}
