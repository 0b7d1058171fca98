package table_test

import (
	"testing"

	"rota/api"
)

// P15.2: a line a statement, each field in its order, whether it says something or not.
func TestTextWhole(t *testing.T) {
	isText(t, whole(), `cluster {
  nodes 4;
  owners 2 0 1 3;
  drift 11;
  reading -12;
  margin 13;
  bound 14;
  rejoin 15;
  quota 16;
  part 20 21 22;
  part 23 24 25;
  window 30 -1 32;
  window;
  window 33;
  port 40 sampling dest 41 42 43;
  port 44 queuing source 45 46 47;
  link 50 53 : 51 52;
  link 54 55 :;
}
`)
}

const nothing = `cluster {
  nodes 0;
  owners;
  drift 0;
  reading 0;
  margin 0;
  bound 0;
  rejoin 0;
  quota 0;
`

// P15.2: what is nothing, or empty, is written so.
func TestTextNothing(t *testing.T) {
	isText(t, api.Config{}, nothing+"}\n")
	isText(t, api.Config{Owners: []int{}, Parts: []api.Part{}, Windows: [][]int{}, Ports: []api.Port{}, Links: []api.Link{}}, nothing+"}\n")
	isText(t, api.Config{Windows: [][]int{nil, {}}, Links: []api.Link{{}, {Dests: []int{}}}},
		nothing+"  window;\n  window;\n  link 0 0 :;\n  link 0 0 :;\n}\n")
}

// P15.2: kinds and directions are words where there are some, and else numbers.
func TestTextWords(t *testing.T) {
	for _, x := range []struct {
		kind, dir int
		want      string
	}{
		{0, 0, "0 0"}, {1, 1, "sampling source"}, {2, 2, "queuing dest"}, {1, 2, "sampling dest"}, {2, 1, "queuing source"},
		{3, 3, "3 3"}, {-1, -1, "-1 -1"}, {1, 0, "sampling 0"}, {0, 1, "0 source"}, {high, low, "2147483647 -2147483648"},
		{low, high, "-2147483648 2147483647"},
	} {
		isText(t, api.Config{Ports: []api.Port{{Part: 1, Kind: x.kind, Dir: x.dir, Size: 2, Depth: 1, Fresh: 2}}},
			nothing+"  port 1 "+x.want+" 2 1 2;\n}\n")
	}
}

// P15.2: each number may go from end to end, and none beyond.
func TestTextEnds(t *testing.T) {
	for i := range pointers(new(whole())) {
		for _, n := range []int{low, high, 0} {
			c := whole()
			*pointers(&c)[i] = n
			isTable(t, text(t, c), c)
		}
		for _, n := range []int{low - 1, high + 1, least, most, 1 << 32, -1 << 32, 1<<32 + 4} {
			c := whole()
			*pointers(&c)[i] = n
			isNoText(t, c)
		}
	}
}
