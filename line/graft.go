package line

import (
	"slices"

	"spile/api"
)

// Cut returns tubing without a node and all behind it, and which nodes are kept.
func Cut(n api.Net, node int) (kept api.Net, numbers []int, e api.Errno) {
	if e := checkNodes(n, node); e != api.OK {
		return api.Net{}, nil, e
	}
	if node == 0 {
		return api.Net{}, nil, api.ErrRange
	}
	kept.Pump = n.Pump
	for old, p := range n.Pipes {
		if passes(n, old, node) {
			continue
		}
		// The pump's parent is not there, and stays -1.
		p.Parent = slices.Index(numbers, p.Parent)
		kept.Pipes = append(kept.Pipes, p)
		numbers = append(numbers, old)
	}
	return kept, numbers, api.OK
}

// Graft returns tubing with other tubing, whose pump becomes a node.
func Graft(n api.Net, node int, other api.Net) (api.Net, api.Errno) {
	if e := Check(n); e != api.OK {
		return api.Net{}, e
	}
	if e := Check(other); e != api.OK {
		return api.Net{}, e
	}
	if e := checkNodes(n, node); e != api.OK {
		return api.Net{}, e
	}
	if len(n.Pipes)+len(other.Pipes)-1 > api.MaxNodes {
		return api.Net{}, api.ErrFull
	}
	grown := api.Net{Pump: n.Pump, Pipes: slices.Clone(n.Pipes)}
	for _, p := range other.Pipes[1:] {
		if p.Parent == 0 {
			p.Parent = node
		} else {
			p.Parent += len(n.Pipes) - 1
		}
		grown.Pipes = append(grown.Pipes, p)
	}
	return grown, api.OK
}
