package table_test

import (
	"math/rand"
	"strings"
	"testing"

	"rota/api"
	"rota/lex"
	"rota/table"
)

// P15.1: the chapter's examples.
func TestParseExamples(t *testing.T) {
	isTable(t, "cluster { nodes 4; owners 2 0 1 3; part 0 0 8; }",
		api.Config{Nodes: 4, Owners: []int{2, 0, 1, 3}, Parts: []api.Part{{Node: 0, From: 0, To: 8}}})
	isTable(t, "cluster { port 0 sampling dest 8 0 5; link 1 0 : 2 3; }", api.Config{
		Ports: []api.Port{{Kind: 1, Dir: 2, Size: 8, Fresh: 5}},
		Links: []api.Link{{Source: 1, Dests: []int{2, 3}}},
	})
	isNone(t, "cluster { nodes 4; nodes 4; }", 1, 20, api.ErrTable)
	isNone(t, "cluster { ;", 1, 11, api.ErrTable)
	isNone(t, "", 1, 1, api.ErrTable)
}

// P15.1: each word sets its own numbers, in their order, and no others.
func TestParseEachWord(t *testing.T) {
	for text, want := range map[string]api.Config{
		"":                           {},
		"nodes 4;":                   {Nodes: 4},
		"drift -5;":                  {Drift: -5},
		"reading 6;":                 {Reading: 6},
		"margin 7;":                  {Margin: 7},
		"bound 8;":                   {Bound: 8},
		"rejoin 9;":                  {Rejoin: 9},
		"quota 10;":                  {Quota: 10},
		"owners;":                    {},
		"owners 3;":                  {Owners: []int{3}},
		"owners 3 -1 2 3;":           {Owners: []int{3, -1, 2, 3}},
		"part 1 2 3;":                {Parts: []api.Part{{Node: 1, From: 2, To: 3}}},
		"part 1 2 3; part 4 5 6;":    {Parts: []api.Part{{Node: 1, From: 2, To: 3}, {Node: 4, From: 5, To: 6}}},
		"window;":                    {Windows: [][]int{{}}},
		"window; window;":            {Windows: [][]int{{}, {}}},
		"window 1 -1; window 2;":     {Windows: [][]int{{1, -1}, {2}}},
		"port 1 2 3 4 5 6;":          {Ports: []api.Port{{Part: 1, Kind: 2, Dir: 3, Size: 4, Depth: 5, Fresh: 6}}},
		"link 1 2 :;":                {Links: []api.Link{{Source: 1, Offset: 2}}},
		"link 1 2 : 3;":              {Links: []api.Link{{Source: 1, Offset: 2, Dests: []int{3}}}},
		"link 1 2:3 4;link 5 6 : 7;": {Links: []api.Link{{Source: 1, Offset: 2, Dests: []int{3, 4}}, {Source: 5, Offset: 6, Dests: []int{7}}}},
	} {
		isTable(t, "cluster {"+text+"}", want)
		isTable(t, "\n# all\ncluster\n{\t"+strings.ReplaceAll(text, " ", "\r\n# ; }\n")+"}# end", want)
	}
}

// P15.1: numbers go from end to end, and words stand for kinds and directions at their
// places alone.
func TestParsePorts(t *testing.T) {
	port := func(kind, dir int) api.Config { return api.Config{Ports: []api.Port{{Kind: kind, Dir: dir}}} }
	isTable(t, "cluster { port 0 sampling source 0 0 0; }", port(1, 1))
	isTable(t, "cluster { port 0 sampling dest 0 0 0; }", port(1, 2))
	isTable(t, "cluster { port 0 queuing source 0 0 0; }", port(2, 1))
	isTable(t, "cluster { port 0 queuing 2 0 0 0; }", port(2, 2))
	isTable(t, "cluster { port 0 1 dest 0 0 0; }", port(1, 2))
	isTable(t, "cluster { port 0 -2147483648 2147483647 0 0 0; }", port(low, high))
	words := []string{"sampling", "queuing", "source", "dest", "port"}
	for at := range 6 {
		for i, word := range words {
			if at == 1 && i < 2 || at == 2 && (i == 2 || i == 3) {
				continue
			}
			isNone(t, "cluster { port "+strings.Repeat("1 ", at)+word+" 1 1 1 1 1; }", 1, 16+2*at, api.ErrTable)
		}
	}
}

// P15.1: what stands between is of no weight, but each list has what was said of it.
func TestParseOrder(t *testing.T) {
	isTable(t, "cluster { window 1; part 1 2 3; nodes 4; window 2; owners 1; part 4 5 6; link 9 9 : 1; quota 2; port 1 1 1 1 1 1; link 8 8 :; }", api.Config{
		Nodes: 4, Owners: []int{1}, Quota: 2, Windows: [][]int{{1}, {2}},
		Parts: []api.Part{{Node: 1, From: 2, To: 3}, {Node: 4, From: 5, To: 6}},
		Ports: []api.Port{{Part: 1, Kind: 1, Dir: 1, Size: 1, Depth: 1, Fresh: 1}},
		Links: []api.Link{{Source: 9, Offset: 9, Dests: []int{1}}, {Source: 8, Offset: 8}},
	})
}

// P15.1: a byte that begins no token is told ahead of all that is no table.
func TestParseLexFirst(t *testing.T) {
	isNone(t, "nodes; } !", 1, 10, api.ErrLex)
	isNone(t, "cluster { nodes 4; nodes\n  04; }", 2, 3, api.ErrLex)
	isNone(t, "cluster { nodes 4x; }", 1, 18, api.ErrLex)
	isNone(t, "cluster { } -", 1, 13, api.ErrLex)
	isNone(t, "cluster { nodes 2147483648; }", 1, 17, api.ErrLex)
	isNone(t, "Cluster", 1, 1, api.ErrLex)
}

// P15.1: the first token that cannot stand there is told.
func TestParseWrongToken(t *testing.T) {
	for _, x := range []struct {
		text   string
		column int
	}{
		{"nodes 4;", 1}, {"4", 1}, {"{", 1}, {"clusters { }", 1}, {"cluster cluster", 9}, {"cluster ;", 9}, {"cluster }", 9},
		{"cluster { } }", 13}, {"cluster { } cluster { }", 13}, {"cluster { } ;", 13}, {"cluster { } nodes 4;", 13},
		{"cluster { { }", 11}, {"cluster { 4 ; }", 11}, {"cluster { node 4; }", 11}, {"cluster { cluster { } }", 11},
		{"cluster { nodes; }", 16}, {"cluster { nodes 4 5; }", 19}, {"cluster { nodes four; }", 17}, {"cluster { nodes 4 }", 19},
		{"cluster { nodes 4: }", 18}, {"cluster { nodes }", 17}, {"cluster { nodes 4;; }", 19}, {"cluster { nodes 4; nodes; }", 20},
		{"cluster { owners; owners; }", 19}, {"cluster { owners 1 2 x; }", 22}, {"cluster { owners 1,2; }", 19}, {"cluster { owners 1 }", 20},
		{"cluster { part 1 2; }", 19}, {"cluster { part 1 2 3 4; }", 22}, {"cluster { part 1 2 : }", 20}, {"cluster { part 1 part 2 3; }", 18},
		{"cluster { window 1 : 2; }", 20}, {"cluster { window sampling; }", 18}, {"cluster { window window; }", 18},
		{"cluster { port 1 2 3 4 5; }", 25}, {"cluster { port 1 2 3 4 5 6 7; }", 28}, {"cluster { port; }", 15},
		{"cluster { port 1 source dest 4 5 6; }", 18}, {"cluster { port 1 sampling sampling 4 5 6; }", 27},
		{"cluster { link 1 2; }", 19}, {"cluster { link 1 : 2; }", 18}, {"cluster { link 1 2 3 : 4; }", 20}, {"cluster { link 1 2 : : 4; }", 22},
		{"cluster { link 1 2 : 3 : 4; }", 24}, {"cluster { link 1 2 ; 3; }", 20}, {"cluster { link : ; }", 16}, {"cluster { link 1 2 : 3 nodes 4; }", 24},
	} {
		isNone(t, x.text, 1, x.column, api.ErrTable)
		isNone(t, "\n \n "+x.text, 3, x.column+1, api.ErrTable)
	}
}

// P15.1: of each word that may not come again, the second one is told.
func TestParseTwice(t *testing.T) {
	for _, word := range []string{"nodes", "drift", "reading", "margin", "bound", "rejoin", "quota", "owners"} {
		isNone(t, "cluster {\n"+word+" 1;\n window 1;\n "+word+" 1; }", 4, 2, api.ErrTable)
		isNone(t, "cluster {\n"+word+" 1;\n window 1;\n "+word, 4, 2, api.ErrTable)
	}
}

// P15.1: a text that ends too early is told at its last token; without one, at 1, 1.
func TestParseEndsEarly(t *testing.T) {
	for _, s := range []string{"", " ", "\n\n ", "# all\n", "\n#", "\t\r"} {
		isNone(t, s, 1, 1, api.ErrTable)
	}
	l := strings.Fields("cluster { nodes 4 ; owners 1 2 ; part 1 2 3 ; window 1 -1 ; port 1 sampling dest 4 5 6 ; link 1 2 : 3 4 ; }")
	for to := 1; to < len(l); to++ {
		s := "\n" + strings.Join(l[:to], " ")
		isNone(t, s, 2, len(s)-len(l[to-1]), api.ErrTable)
		isNone(t, s+"  # }\n\n", 2, len(s)-len(l[to-1]), api.ErrTable)
	}
}

// P15.1: of any tokens the answer is the model's.
func TestParseLikeModel(t *testing.T) {
	r := rand.New(rand.NewSource(1501))
	tables := 0
	for range 30000 {
		l := changed(r, someTexts(r))
		s, lines, columns := laid(r, l)
		at, ok := firstWrong(l)
		_, line, column, err := table.Parse(s)
		switch {
		case ok:
			tables++
			if err != api.OK || line != 0 || column != 0 {
				t.Fatal(s, line, column, err)
			}
		case len(l) == 0:
			isNone(t, s, 1, 1, api.ErrTable)
		default:
			at = min(at, len(l)-1)
			isNone(t, s, lines[at], columns[at], api.ErrTable)
		}
	}
	if tables < 5000 || tables > 25000 {
		t.Error(tables)
	}
}

// P15.1: any bytes are answered; what lex refuses is refused just so.
func TestParseAnyBytes(t *testing.T) {
	r := rand.New(rand.NewSource(1502))
	pieces := []string{"cluster", " { ", "}", ";", "nodes", " ", "4", "\n", "#", "!", "-", "owners", ":", "link 1 2", "\xff", "0"}
	for range 30000 {
		var b strings.Builder
		for range r.Intn(12) {
			b.WriteString(pieces[r.Intn(len(pieces))])
		}
		s := b.String()
		_, line, column, lexErr := lex.Tokens(s)
		c, x, y, err := table.Parse(s)
		if lexErr != api.OK {
			isNone(t, s, line, column, lexErr)
		} else if err == api.OK && (x != 0 || y != 0) || err != api.OK && (err != api.ErrTable || x < 1 || y < 1 || !same(c, api.Config{})) {
			t.Fatal(s, c, x, y, err)
		}
	}
}
