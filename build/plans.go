package build

import (
	"drogher/api"
	"drogher/chunk"
	"drogher/delta"
	"drogher/graph"
	"drogher/order"
)

// packed is what is packed for each block of the new image; and, in place, the order in which they come.
func packed(old, new []byte, o api.Options) ([][]byte, []int, api.Errno) {
	plans, e := chosen(old, new, o)
	if e != api.OK {
		return nil, nil, e
	}
	var row []int
	if o.Mode == api.ModePlace {
		edges, e := graph.Edges(plans, o.Block)
		if e != api.OK {
			return nil, nil, e
		}
		var broken []int
		row, broken, e = order.Of(edges)
		if e != api.OK {
			return nil, nil, e
		}
		for _, i := range broken {
			plans[i] = delta.Literal(delta.Block(new, o.Block, i))
		}
	}
	var pays [][]byte
	for _, l := range plans {
		b, e := chunk.Pack(l)
		if e != api.OK {
			return nil, nil, e
		}
		pays = append(pays, b)
	}
	return pays, row, api.OK
}

// chosen are plans for the new image: of the old one, where that is shorter, or of nothing.
func chosen(old, new []byte, o api.Options) ([][]api.Step, api.Errno) {
	if o.Mode == api.ModeFull {
		var l [][]api.Step
		for i := range delta.Blocks(len(new), o.Block) {
			l = append(l, delta.Literal(delta.Block(new, o.Block, i)))
		}
		return l, api.OK
	}
	plans, e := delta.Plans(old, new, o.Block)
	if e != api.OK {
		return nil, e
	}
	for i, l := range plans {
		plans[i] = shorter(l, delta.Literal(delta.Block(new, o.Block, i)))
	}
	return plans, api.OK
}

// shorter is the plan that is packed in fewer bytes, a single Copy or else the one or the other.
func shorter(l, literal []api.Step) []api.Step {
	if len(l) == 1 && l[0].Kind == api.Copy {
		return l
	}
	a, e := chunk.Pack(l)
	b, f := chunk.Pack(literal)
	if e == api.OK && f == api.OK && len(b) < len(a) {
		return literal
	}
	return l
}
