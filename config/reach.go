package config

import "rota/api"

// Reach is, of each partition, which ones can learn of it.
func Reach(c api.Config) [][]bool {
	next := linked(c)
	all := make([][]bool, len(c.Parts))
	for p := range all {
		all[p] = reached(next, p)
	}
	return all
}

// linked is, of each partition, which ones its links go to. The configuration
// need not be one that may be: a link with an end that is nowhere goes nowhere.
func linked(c api.Config) [][]int {
	next := make([][]int, len(c.Parts))
links:
	for _, l := range c.Links {
		from, ok := partOf(c, l.Source)
		if !ok {
			continue
		}
		var to []int
		for _, d := range l.Dests {
			p, ok := partOf(c, d)
			if !ok {
				continue links
			}
			to = append(to, p)
		}
		next[from] = append(next[from], to...)
	}
	return next
}

// partOf is the partition that has a port; false, if there is none.
func partOf(c api.Config, port int) (int, bool) {
	if !isOf(c.Ports, port) || !isOf(c.Parts, c.Ports[port].Part) {
		return 0, false
	}
	return c.Ports[port].Part, true
}

// reached is which ones can be come to from one, by what is next to each.
func reached(next [][]int, from int) []bool {
	seen := make([]bool, len(next))
	seen[from] = true
	open := []int{from}
	for len(open) > 0 {
		p := open[len(open)-1]
		open = open[:len(open)-1]
		for _, q := range next[p] {
			if !seen[q] {
				seen[q] = true
				open = append(open, q)
			}
		}
	}
	return seen
}
