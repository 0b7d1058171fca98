package table

import (
	"iter"
	"slices"
	"strconv"

	"rota/api"
)

// kinds and dirs are the words that stand for those of ports; none stands for 0.
func kinds() []string { return []string{api.Sampling: "sampling", api.Queuing: "queuing"} }

func dirs() []string { return []string{api.Source: "source", api.Dest: "dest"} }

// named is the number that a word stands for.
func named(names []string, word string) (n int, is bool) {
	for n, name := range names {
		if name == word {
			return n, true
		}
	}
	return 0, false
}

// name is the word that stands for a number; the number, if there is none.
func name(names []string, n int) string {
	if n > 0 && n < len(names) {
		return names[n]
	}
	return strconv.Itoa(n)
}

// write hands each statement to line, in the order of a table.
func write(c api.Config, line func(word string, behind ...string)) {
	line("nodes", texts(c.Nodes)...)
	line("owners", texts(c.Owners...)...)
	line("drift", texts(c.Drift)...)
	line("reading", texts(c.Reading)...)
	line("margin", texts(c.Margin)...)
	line("bound", texts(c.Bound)...)
	line("rejoin", texts(c.Rejoin)...)
	line("quota", texts(c.Quota)...)
	for _, p := range c.Parts {
		line("part", texts(p.Node, p.From, p.To)...)
	}
	for _, w := range c.Windows {
		line("window", texts(w...)...)
	}
	for _, p := range c.Ports {
		l := texts(p.Part, p.Kind, p.Dir, p.Size, p.Depth, p.Fresh)
		l[1], l[2] = name(kinds(), p.Kind), name(dirs(), p.Dir)
		line("port", l...)
	}
	for _, l := range c.Links {
		line("link", slices.Concat(texts(l.Source, l.Offset), []string{":"}, texts(l.Dests...))...)
	}
}

func texts(l ...int) []string {
	all := make([]string, len(l))
	for i, n := range l {
		all[i] = strconv.Itoa(n)
	}
	return all
}

// numbers are all that a configuration has.
func numbers(c api.Config) iter.Seq[int] {
	return func(yield func(int) bool) {
		each := func(l ...int) bool {
			for _, n := range l {
				if !yield(n) {
					return false
				}
			}
			return true
		}
		if !each(c.Nodes, c.Drift, c.Reading, c.Margin, c.Bound, c.Rejoin, c.Quota) || !each(c.Owners...) {
			return
		}
		for _, p := range c.Parts {
			if !each(p.Node, p.From, p.To) {
				return
			}
		}
		for _, w := range c.Windows {
			if !each(w...) {
				return
			}
		}
		for _, p := range c.Ports {
			if !each(p.Part, p.Kind, p.Dir, p.Size, p.Depth, p.Fresh) {
				return
			}
		}
		for _, l := range c.Links {
			if !each(l.Source, l.Offset) || !each(l.Dests...) {
				return
			}
		}
	}
}
