package table_test

import (
	"math/rand"
	"reflect"
	"slices"
	"strconv"
	"strings"
	"testing"

	"rota/api"
	"rota/table"
)

// The ends of all ints, and of the numbers of a table.
const (
	most  = 1<<63 - 1
	least = -1 << 63
	high  = 1<<31 - 1
	low   = -1 << 31
)

// plain is a configuration without lists that are empty and not nil, so that two are
// held against each other piece by piece.
func plain(c api.Config) api.Config {
	d := c
	d.Owners = append([]int(nil), c.Owners...)
	d.Parts = append([]api.Part(nil), c.Parts...)
	d.Ports = append([]api.Port(nil), c.Ports...)
	d.Windows, d.Links = nil, nil
	for _, w := range c.Windows {
		d.Windows = append(d.Windows, append([]int(nil), w...))
	}
	for _, l := range c.Links {
		l.Dests = append([]int(nil), l.Dests...)
		d.Links = append(d.Links, l)
	}
	return d
}

func same(a, b api.Config) bool { return reflect.DeepEqual(plain(a), plain(b)) }

func isTable(t *testing.T, s string, want api.Config) {
	t.Helper()
	c, line, column, err := table.Parse(s)
	if err != api.OK || line != 0 || column != 0 || !same(c, want) {
		t.Errorf("Parse(%q) = %+v, %d, %d, %v; want %+v", s, c, line, column, err, want)
	}
}

func isNone(t *testing.T, s string, line, column int, want api.Errno) {
	t.Helper()
	c, x, y, err := table.Parse(s)
	if err != want || x != line || y != column || !reflect.DeepEqual(c, api.Config{}) {
		t.Errorf("Parse(%q) = %+v, %d, %d, %v; want %d:%d, %v", s, c, x, y, err, line, column, want)
	}
}

func isText(t *testing.T, c api.Config, want string) {
	t.Helper()
	if s, err := table.Text(c); s != want || err != api.OK {
		t.Errorf("Text(%+v) = %q, %v; want %q", c, s, err, want)
	}
}

func isNoText(t *testing.T, c api.Config) {
	t.Helper()
	if s, err := table.Text(c); s != "" || err != api.ErrArg {
		t.Errorf("Text(%+v) = %q, %v; want an error", c, s, err)
	}
}

// whole is a configuration in which each number is another one.
func whole() api.Config {
	return api.Config{
		Nodes: 4, Owners: []int{2, 0, 1, 3}, Drift: 11, Reading: -12, Margin: 13, Bound: 14, Rejoin: 15, Quota: 16,
		Parts:   []api.Part{{Node: 20, From: 21, To: 22}, {Node: 23, From: 24, To: 25}},
		Windows: [][]int{{30, -1, 32}, {}, {33}},
		Ports:   []api.Port{{Part: 40, Kind: 1, Dir: 2, Size: 41, Depth: 42, Fresh: 43}, {Part: 44, Kind: 2, Dir: 1, Size: 45, Depth: 46, Fresh: 47}},
		Links:   []api.Link{{Source: 50, Dests: []int{51, 52}, Offset: 53}, {Source: 54, Offset: 55}},
	}
}

// pointers are to all numbers of a configuration.
func pointers(c *api.Config) []*int {
	l := []*int{&c.Nodes, &c.Drift, &c.Reading, &c.Margin, &c.Bound, &c.Rejoin, &c.Quota}
	for i := range c.Owners {
		l = append(l, &c.Owners[i])
	}
	for i := range c.Parts {
		p := &c.Parts[i]
		l = append(l, &p.Node, &p.From, &p.To)
	}
	for _, w := range c.Windows {
		for i := range w {
			l = append(l, &w[i])
		}
	}
	for i := range c.Ports {
		p := &c.Ports[i]
		l = append(l, &p.Part, &p.Kind, &p.Dir, &p.Size, &p.Depth, &p.Fresh)
	}
	for i := range c.Links {
		k := &c.Links[i]
		l = append(l, &k.Source, &k.Offset)
		for j := range k.Dests {
			l = append(l, &k.Dests[j])
		}
	}
	return l
}

func someNumber(r *rand.Rand) int {
	if r.Intn(2) == 0 {
		return r.Intn(5) - 1
	}
	return int(int32(r.Uint32())) >> r.Intn(32)
}

func someNumbers(r *rand.Rand) []int {
	l := make([]int, r.Intn(4))
	for i := range l {
		l[i] = someNumber(r)
	}
	return l
}

func someConfig(r *rand.Rand) api.Config {
	c := api.Config{Owners: someNumbers(r), Parts: make([]api.Part, r.Intn(3)), Ports: make([]api.Port, r.Intn(4))}
	for range r.Intn(3) {
		c.Windows = append(c.Windows, someNumbers(r))
	}
	for range r.Intn(3) {
		c.Links = append(c.Links, api.Link{Dests: someNumbers(r)})
	}
	for _, p := range pointers(&c) {
		*p = someNumber(r)
	}
	return c
}

// forms are what statements are made of: # is a number, K a number or the word of a
// kind, D one of a direction, and * any numbers.
var forms = []string{
	"nodes # ;", "owners * ;", "drift # ;", "reading # ;", "margin # ;", "bound # ;", "rejoin # ;", "quota # ;",
	"part # # # ;", "window * ;", "port # K D # # # ;", "link # # : * ;",
}

func isRepeated(word string) bool {
	return word == "part" || word == "window" || word == "port" || word == "link"
}

func stands(piece, text string) bool {
	_, err := strconv.Atoi(text)
	switch piece {
	case "#":
		return err == nil
	case "K":
		return err == nil || text == "sampling" || text == "queuing"
	case "D":
		return err == nil || text == "source" || text == "dest"
	}
	return piece == text
}

// firstWrong is how many of a text's tokens can stand where they do, and whether
// they are a table, told piece by piece of the forms.
func firstWrong(l []string) (at int, ok bool) {
	want := []string{"cluster", "{", "statement"}
	seen := map[string]int{}
	for at, text := range l {
		if len(want) == 0 {
			return at, false
		}
		if want[0] == "*" && stands("#", text) {
			continue
		}
		if want[0] == "*" {
			want = want[1:]
		}
		if want[0] != "statement" {
			if !stands(want[0], text) {
				return at, false
			}
			want = want[1:]
			continue
		}
		if text == "}" {
			want = nil
			continue
		}
		i := slices.IndexFunc(forms, func(f string) bool { return strings.HasPrefix(f, text+" ") })
		seen[text]++
		if i < 0 || seen[text] > 1 && !isRepeated(text) {
			return at, false
		}
		want = append(strings.Fields(forms[i])[1:], "statement")
	}
	return len(l), len(want) == 0
}

// laid are texts of tokens, one behind the other, with something between each two; and
// where each begins.
func laid(r *rand.Rand, l []string) (s string, lines, columns []int) {
	between := []string{" ", "\t", "\n", "\r\n", " # nodes 4;\n", "  "}
	var b strings.Builder
	line, begin := 1, 0
	put := func(text string) {
		b.WriteString(text)
		line += strings.Count(text, "\n")
		if i := strings.LastIndexByte(text, '\n'); i >= 0 {
			begin = b.Len() - len(text) + i + 1
		}
	}
	for _, text := range l {
		put(between[r.Intn(len(between))])
		lines, columns = append(lines, line), append(columns, b.Len()-begin+1)
		put(text)
	}
	put(between[r.Intn(len(between))])
	return b.String(), lines, columns
}

// someTexts are tokens of a table, with statements in any order.
func someTexts(r *rand.Rand) []string {
	l := []string{"cluster", "{"}
	for _, i := range r.Perm(len(forms)) {
		word := strings.Fields(forms[i])[0]
		many := r.Intn(2)
		if isRepeated(word) {
			many = r.Intn(3)
		}
		for range many {
			l = append(l, someStatement(r, forms[i])...)
		}
	}
	return append(l, "}")
}

func someStatement(r *rand.Rand, form string) []string {
	var l []string
	for _, piece := range strings.Fields(form) {
		text := strconv.Itoa(someNumber(r))
		switch {
		case piece == "*":
			for _, n := range someNumbers(r) {
				l = append(l, strconv.Itoa(n))
			}
			continue
		case piece == "K" && r.Intn(3) > 0:
			text = []string{"sampling", "queuing"}[r.Intn(2)]
		case piece == "D" && r.Intn(3) > 0:
			text = []string{"source", "dest"}[r.Intn(2)]
		case !strings.Contains("#KD", piece):
			text = piece
		}
		l = append(l, text)
	}
	return l
}

// changed are tokens of which some are gone, other ones, or come again.
func changed(r *rand.Rand, l []string) []string {
	others := []string{"cluster", "{", "}", ";", ":", ",", "(", "=", ".", "nodes", "owners", "part", "window", "port", "link", "sampling", "queuing", "source", "dest", "4", "-1", "x", "quota", "any"}
	l = slices.Clone(l)
	for range r.Intn(3) {
		i := r.Intn(len(l) + 1)
		switch k := r.Intn(5); {
		case k == 0:
			l = slices.Insert(l, i, others[r.Intn(len(others))])
		case i == len(l):
		case k == 1:
			l[i] = others[r.Intn(len(others))]
		case k == 2:
			l = slices.Delete(l, i, i+1)
		case k == 3:
			j := r.Intn(len(l))
			l[i], l[j] = l[j], l[i]
		default:
			l = l[:i]
		}
		if len(l) == 0 {
			break
		}
	}
	return l
}
