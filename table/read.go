package table

import (
	"iter"

	"rota/api"
)

// read is the configuration of a table's tokens. is: they are a table; right is how
// many of them, from the first one on, can stand where they do.
func read(l []api.Token) (c api.Config, right int, is bool) {
	for _, text := range []string{"cluster", "{"} {
		if !begins(l[right:], text) {
			return api.Config{}, right, false
		}
		right++
	}
	r := newReader()
all:
	for s := range statements(l[right:]) {
		n, whole := r.statement(s)
		right += n
		switch {
		case begins(s, "}"):
			right++
			is = right == len(l)
			break all
		case !whole:
			break all
		}
	}
	return r.c, right, is
}

// statements are cut of tokens: each goes as far as its ;, or as they do.
func statements(l []api.Token) iter.Seq[[]api.Token] {
	return func(yield func([]api.Token) bool) {
		from := 0
		for i, t := range l {
			if t.Text != ";" && i+1 < len(l) {
				continue
			}
			if !yield(l[from : i+1]) {
				return
			}
			from = i + 1
		}
	}
}

// begins says whether the first one of tokens has that text, which tells its kind, too.
func begins(l []api.Token, text string) bool { return len(l) > 0 && l[0].Text == text }

// reader reads statements, one by one, into a configuration.
type reader struct {
	c api.Config
	// What a statement says of a list's new element, until it is whole.
	part api.Part
	port api.Port
	link api.Link
	// places are where each word's numbers go. A word that may not come any more has none.
	places map[string][]*int
}

func newReader() *reader {
	r := new(reader)
	c, part, port, link := &r.c, &r.part, &r.port, &r.link
	r.places = map[string][]*int{
		"nodes":   {&c.Nodes},
		"owners":  {},
		"drift":   {&c.Drift},
		"reading": {&c.Reading},
		"margin":  {&c.Margin},
		"bound":   {&c.Bound},
		"rejoin":  {&c.Rejoin},
		"quota":   {&c.Quota},
		"part":    {&part.Node, &part.From, &part.To},
		"window":  {},
		"port":    {&port.Part, &port.Kind, &port.Dir, &port.Size, &port.Depth, &port.Fresh},
		"link":    {&link.Source, &link.Offset},
	}
	return r
}

// statement reads one. It answers how many of its tokens can stand where they do,
// and whether it is a whole one.
func (r *reader) statement(s []api.Token) (right int, whole bool) {
	word := s[0].Text
	places, may := r.places[word]
	if !may {
		return 0, false
	}
	right = 1
	for _, to := range places {
		n, is := r.number(to, s[right:])
		if !is {
			return right, false
		}
		*to = n
		right++
	}
	if word == "link" {
		if !begins(s[right:], ":") {
			return right, false
		}
		right++
	}
	var list []int
	if hasList(word) {
		list = leading(s[right:])
		right += len(list)
	}
	if !begins(s[right:], ";") {
		return right, false
	}
	r.end(word, list)
	return right + 1, true
}

// number is what the first one of tokens says at a place.
func (r *reader) number(to *int, l []api.Token) (n int, is bool) {
	if len(l) == 0 {
		return 0, false
	}
	if l[0].Kind == api.TokNumber {
		return l[0].N, true
	}
	switch to {
	case &r.port.Kind:
		return named(kinds(), l[0].Text)
	case &r.port.Dir:
		return named(dirs(), l[0].Text)
	}
	return 0, false
}

// hasList says whether any numbers stand at the end of a word's statement.
func hasList(word string) bool {
	return word == "owners" || word == "window" || word == "link"
}

// leading are the numbers that tokens begin with.
func leading(l []api.Token) []int {
	var list []int
	for _, t := range l {
		if t.Kind != api.TokNumber {
			break
		}
		list = append(list, t.N)
	}
	return list
}

// end takes what a whole statement says.
func (r *reader) end(word string, list []int) {
	c := &r.c
	switch word {
	case "part":
		c.Parts = append(c.Parts, r.part)
	case "window":
		c.Windows = append(c.Windows, list)
	case "port":
		c.Ports = append(c.Ports, r.port)
	case "link":
		r.link.Dests = list
		c.Links = append(c.Links, r.link)
	case "owners":
		c.Owners = list
		fallthrough
	default:
		delete(r.places, word)
	}
}
