package lex_test

import (
	"math/rand"
	"testing"

	"rota/api"
	"rota/lex"
)

// P14.3: the last one that begins at a place, or ahead of it.
func TestFind(t *testing.T) {
	l, _, _, err := lex.Tokens("\n ab 4;\n\n c { # x\nd")
	if err != api.OK || len(l) != 6 {
		t.Fatal(l, err)
	}
	// The tokens: 2:2 2:5 2:6 4:2 4:4 5:1.
	for _, x := range [][3]int{
		{1, 1, -1}, {1, 100, -1}, {2, 1, -1}, {2, 2, 0}, {2, 3, 0}, {2, 4, 0}, {2, 5, 1}, {2, 6, 2}, {2, 7, 2},
		{3, 0, 2}, {3, 9, 2}, {4, 1, 2}, {4, 2, 3}, {4, 3, 3}, {4, 4, 4}, {4, 5, 4}, {5, 0, 4}, {5, 1, 5}, {6, 0, 5}, {6, -5, 5},
		{0, 0, -1}, {-1, 7, -1}, {least, most, -1}, {most, least, 5}, {most, most, 5}, {5, least, 4}, {2, most, 2}, {5, most, 5},
	} {
		isFind(t, l, x[0], x[1], x[2])
	}
}

// P14.3: in a list without tokens there is none.
func TestFindNone(t *testing.T) {
	for _, x := range []int{least, -1, 0, 1, most} {
		isFind(t, nil, x, most, -1)
		isFind(t, []api.Token{}, most, x, -1)
	}
}

// P14.3: of lists that do not rise the last one in the list of which that holds.
func TestFindUnordered(t *testing.T) {
	l := []api.Token{{Line: 3, Column: 1}, {Line: 1, Column: 5}, {Line: 1, Column: 2}, {Line: 9, Column: 9}, {Line: 1, Column: 2}, {Line: 2, Column: 7}}
	isFind(t, l, 1, 1, -1)
	isFind(t, l, 1, 2, 4)
	isFind(t, l, 2, 6, 4)
	isFind(t, l, 2, 7, 5)
	isFind(t, l, 9, 9, 5)
	isFind(t, l[:4], 4, 0, 2)
	isFind(t, l[:4], 9, 9, 3)
	isFind(t, l[:2], 3, 0, 1)
	isFind(t, l[:2], 3, 1, 1)
	isFind(t, l[:2], 1, 4, -1)
	isFind(t, l[:1], 3, 1, 0)
}

// P14.3: of any lists, ends of ints among them, it is the last one of all that are
// asked, one by one.
func TestFindLikeModel(t *testing.T) {
	ends := []int{least, least + 1, -1, 0, 1, 2, 3, most - 1, most}
	r := rand.New(rand.NewSource(1403))
	for range 20000 {
		l := make([]api.Token, r.Intn(6))
		for i := range l {
			l[i] = at(word("a"), ends[r.Intn(len(ends))], ends[r.Intn(len(ends))])
		}
		line, column := ends[r.Intn(len(ends))], ends[r.Intn(len(ends))]
		want := -1
		for i, x := range l {
			if x.Line < line || x.Line == line && x.Column <= column {
				want = i
			}
		}
		isFind(t, l, line, column, want)
	}
}
