package config

import (
	"bytes"
	"math"

	"rota/api"
)

// mark leads the bytes of each configuration.
const mark = "ROTA"

// maxList is how many elements a list has at most.
const maxList = 65535

// wide is how many bytes a number takes.
const wide = 4

// Encode is a configuration's bytes. It need not be one that may be.
func Encode(c api.Config) ([]byte, api.Errno) {
	w := &writer{bytes: []byte(mark)}
	w.config(c)
	if w.wrong {
		return nil, api.ErrArg
	}
	return w.bytes, api.OK
}

// Decode is the configuration whose bytes these are.
func Decode(b []byte) (api.Config, api.Errno) {
	// The mark is as wide as a number, so that nothing can be left over but
	// whole numbers.
	if len(b)%wide != 0 || !bytes.HasPrefix(b, []byte(mark)) {
		return api.Config{}, api.ErrForm
	}
	r := &reader{next: numbersIn(b[len(mark):])}
	c := r.config()
	if _, more := r.next(); more || r.wrong {
		return api.Config{}, api.ErrForm
	}
	return c, api.OK
}

// The order in which numbers stand in the bytes is told here alone, for the
// way there and the way back.

func configNumbers(c *api.Config) []*int {
	return []*int{&c.Nodes, &c.Drift, &c.Reading, &c.Margin, &c.Bound, &c.Rejoin, &c.Quota}
}

func partNumbers(p *api.Part) []*int {
	return []*int{&p.Node, &p.From, &p.To}
}

func portNumbers(p *api.Port) []*int {
	return []*int{&p.Part, &p.Kind, &p.Dir, &p.Size, &p.Depth, &p.Fresh}
}

func linkNumbers(l *api.Link) []*int {
	return []*int{&l.Source, &l.Offset}
}

// writer writes numbers and lists. It is wrong from the first one on that
// bytes cannot tell.
type writer struct {
	bytes []byte
	wrong bool
}

func (w *writer) config(c api.Config) {
	w.numbers(configNumbers(&c))
	w.row(c.Owners)
	writeList(w, c.Parts, (*writer).part)
	writeList(w, c.Windows, (*writer).row)
	writeList(w, c.Ports, (*writer).port)
	writeList(w, c.Links, (*writer).link)
}

func (w *writer) part(p api.Part) { w.numbers(partNumbers(&p)) }

func (w *writer) port(p api.Port) { w.numbers(portNumbers(&p)) }

func (w *writer) link(l api.Link) {
	w.numbers(linkNumbers(&l))
	w.row(l.Dests)
}

func (w *writer) row(l []int) { writeList(w, l, (*writer).number) }

func (w *writer) numbers(l []*int) {
	for _, n := range l {
		w.number(*n)
	}
}

func (w *writer) number(n int) {
	if n < math.MinInt32 || n > math.MaxInt32 {
		w.wrong = true
	}
	w.bytes = append(w.bytes, byte(n>>24), byte(n>>16), byte(n>>8), byte(n))
}

// writeList goes no further once the writer is wrong, so that what cannot be
// told takes no room.
func writeList[T any](w *writer, l []T, one func(*writer, T)) {
	if len(l) > maxList {
		w.wrong = true
	}
	w.number(len(l))
	for _, x := range l {
		if w.wrong {
			return
		}
		one(w, x)
	}
}

// reader reads what a writer writes. It is wrong from the first number on that
// is not there, or is no list's count.
type reader struct {
	next  func() (int, bool)
	wrong bool
}

// numbersIn is what tells one number of b after the other, and false when
// none is left.
func numbersIn(b []byte) func() (int, bool) {
	return func() (int, bool) {
		if len(b) < wide {
			return 0, false
		}
		n := uint32(b[0])<<24 | uint32(b[1])<<16 | uint32(b[2])<<8 | uint32(b[3])
		b = b[wide:]
		return int(int32(n)), true
	}
}

func (r *reader) config() api.Config {
	var c api.Config
	r.numbers(configNumbers(&c))
	c.Owners = r.row()
	c.Parts = readList(r, (*reader).part)
	c.Windows = readList(r, (*reader).row)
	c.Ports = readList(r, (*reader).port)
	c.Links = readList(r, (*reader).link)
	return c
}

func (r *reader) part() api.Part {
	var p api.Part
	r.numbers(partNumbers(&p))
	return p
}

func (r *reader) port() api.Port {
	var p api.Port
	r.numbers(portNumbers(&p))
	return p
}

func (r *reader) link() api.Link {
	var l api.Link
	r.numbers(linkNumbers(&l))
	l.Dests = r.row()
	return l
}

func (r *reader) row() []int { return readList(r, (*reader).number) }

func (r *reader) numbers(l []*int) {
	for _, n := range l {
		*n = r.number()
	}
}

func (r *reader) number() int {
	n, ok := r.next()
	if !ok {
		r.wrong = true
	}
	return n
}

func (r *reader) count() int {
	n := r.number()
	if n < 0 || n > maxList {
		r.wrong = true
		return 0
	}
	return n
}

// readList takes no room ahead: a count may tell of more than what follows.
func readList[T any](r *reader, one func(*reader) T) []T {
	var l []T
	for range r.count() {
		if r.wrong {
			return nil
		}
		l = append(l, one(r))
	}
	return l
}
