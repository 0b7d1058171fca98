package cluster_test

import (
	"math/rand"

	"rota/api"
	"rota/config"
)

// oneOf is one of some, by chance.
func oneOf[T any](r *rand.Rand, l ...T) T { return l[r.Intn(len(l))] }

// anyConfig is one that may be, by chance; small ones are as likely as all
// others.
func anyConfig(r *rand.Rand) api.Config {
	n := oneOf(r, 4, 4, 5, 5, 6, 7, 4+r.Intn(13))
	c := bare(r.Perm(n)...)
	c.Drift, c.Reading = oneOf(r, 0, r.Intn(5), r.Intn(1000)), oneOf(r, 0, r.Intn(5), r.Intn(1000))
	c.Rejoin, c.Quota = oneOf(r, 1, 1, 1, 2, 1+r.Intn(8)), 1+r.Intn(6)
	least := 2*config.Precision(c) + c.Reading
	c.Margin, c.Bound = least+r.Intn(3)*r.Intn(50), least+r.Intn(3)*r.Intn(50)
	layParts(r, &c)
	layLinks(r, &c)
	return c
}

// layParts gives nodes partitions, side by side, and windows.
func layParts(r *rand.Rand, c *api.Config) {
	from, own := make([]int, c.Nodes), make([][]int, c.Nodes)
	for i := range min(c.Nodes+r.Intn(c.Nodes), api.MaxParts) {
		node := r.Intn(c.Nodes)
		to := from[node] + r.Intn(7)
		c.Parts = append(c.Parts, api.Part{Node: node, From: from[node], To: to})
		from[node], own[node] = to, append(own[node], i)
	}
	for node, row := range c.Windows {
		for i := range row {
			if len(own[node]) > 0 && r.Intn(8) != 0 {
				row[i] = oneOf(r, own[node]...)
			}
		}
	}
}

// layLinks gives partitions ports, of which most are joined.
func layLinks(r *rand.Rand, c *api.Config) {
	from := make([]int, c.Nodes)
	many := oneOf(r, 1, c.Nodes/2, c.Nodes, 3*c.Nodes)
	for len(c.Ports) < api.MaxPorts-5 && r.Intn(many+1) != 0 {
		size, depth := 1+r.Intn(3), r.Intn(3)
		part := r.Intn(len(c.Parts))
		node := c.Parts[part].Node
		l := api.Link{Source: len(c.Ports), Offset: from[node] + r.Intn(2)}
		if l.Offset+1+size > api.Payload {
			return
		}
		from[node] = l.Offset + 1 + size
		c.Ports = append(c.Ports, source(part, size, depth))
		for range 1 + r.Intn(4) {
			l.Dests = append(l.Dests, len(c.Ports))
			to := sample(r.Intn(len(c.Parts)), size, 1+r.Intn(9))
			if depth > 0 {
				to = queue(to.Part, size, 1+r.Intn(3))
			}
			c.Ports = append(c.Ports, to)
		}
		if r.Intn(8) != 0 {
			c.Links = append(c.Links, l)
		}
	}
	r.Shuffle(len(c.Links), func(i, j int) { c.Links[i], c.Links[j] = c.Links[j], c.Links[i] })
}

// anyStreams are of each partition, so that most of what is done is done well.
func anyStreams(r *rand.Rand, c api.Config, slots int) [][]api.Op {
	var all [][]api.Op
	for part := range c.Parts {
		all = append(all, anyStream(r, c, part, slots))
	}
	return all
}

func anyStream(r *rand.Rand, c api.Config, part, slots int) []api.Op {
	var own []int
	for i, p := range c.Ports {
		if p.Part == part {
			own = append(own, i)
		}
	}
	isSound := r.Intn(4) != 0
	var l []api.Op
	for range r.Intn(slots * c.Quota) {
		op := anyOp(r, c, own, c.Parts[part].To-c.Parts[part].From)
		if !isSound && r.Intn(10) == 0 {
			op = wrongOp(r, op)
		}
		l = append(l, op)
	}
	return l
}

// anyOp is one by its own ports, or in a region of so many bytes.
func anyOp(r *rand.Rand, c api.Config, own []int, region int) api.Op {
	kinds := []int{api.OpYield}
	var op api.Op
	if region > 0 {
		kinds = append(kinds, api.OpRead, api.OpWrite)
		op.Addr, op.Byte = r.Intn(region), byte(r.Intn(256))
	}
	if len(own) > 0 {
		kinds = append(kinds, api.OpSend, api.OpRecv, api.OpSend, api.OpRecv)
		op.Port = oneOf(r, own...)
		op.Data = make([]byte, c.Ports[op.Port].Size)
		r.Read(op.Data)
	}
	op.Kind = oneOf(r, kinds...)
	return op
}

func wrongOp(r *rand.Rand, op api.Op) api.Op {
	switch r.Intn(3) {
	case 0:
		op.Kind, op.Addr = oneOf(r, api.OpRead, api.OpWrite, api.OpRaise, 0, 7), r.Intn(9)-1
	case 1:
		op.Port = r.Intn(70) - 2
	case 2:
		op.Data = op.Data[:r.Intn(len(op.Data)+1)]
	}
	return op
}

// anyNumbers are of nodes, of some of which there is none.
func anyNumbers(r *rand.Rand, nodes, most int) []int {
	var l []int
	for range r.Intn(nodes + 2) {
		l = append(l, r.Intn(2*most+1)-most)
	}
	return l
}
