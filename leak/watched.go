package leak

import (
	"iter"
	"slices"

	"spile/api"
	"spile/line"
)

// watched is valid tubing that is watched, with the vacuums of its nodes for all leaks that were asked about.
type watched struct {
	api.Watch
	vacuums map[leakSet][]api.Range
}

// leakSet is leaks at the same time. One without a size is none.
type leakSet [api.MaxLeaks]api.Leak

// has reports whether a number is that of a node.
func (k *watched) has(node int) bool { return in(node, 0, len(k.Net.Pipes)-1) }

// leaksAt yields a leak at a node in each size, the smallest one first.
func (k *watched) leaksAt(node int) iter.Seq[api.Leak] {
	return func(yield func(api.Leak) bool) {
		for size := range k.Steps {
			if !yield(api.Leak{Node: node, Size: size + 1}) {
				return
			}
		}
	}
}

// vacuum returns the vacuum at each node with leaks.
func (k *watched) vacuum(leaks ...api.Leak) []api.Range {
	var set leakSet
	copy(set[:], leaks)
	if known, ok := k.vacuums[set]; ok {
		return known
	}
	flows := slices.Clone(k.Flows)
	for _, leak := range leaks {
		air := leak.Size * k.Air
		flows[leak.Node].Low += air
		flows[leak.Node].High += air
	}
	// All that could be wrong was looked at by Check.
	vacuum, _ := line.Vacuum(k.Net, flows, k.Frozen)
	k.vacuums[set] = vacuum
	return vacuum
}

// first returns the number of the first sensor at which a condition holds for the vacuum, with leaks, and what is read; or -1.
func (k *watched) first(holds func(vacuum, reading api.Range) bool, leaks ...api.Leak) int {
	vacuum := k.vacuum(leaks...)
	return slices.IndexFunc(k.Sensors, func(s api.Sensor) bool { return holds(vacuum[s.Node], s.Reading) })
}

// fit reports whether leaks fit.
func (k *watched) fit(leaks ...api.Leak) bool { return k.first(apart, leaks...) < 0 }

// tooSmall reports whether leaks leave more vacuum than some gauge reads, and tooGreat whether they leave less.
func (k *watched) tooSmall(leaks ...api.Leak) bool { return k.first(above, leaks...) >= 0 }

func (k *watched) tooGreat(leaks ...api.Leak) bool { return k.first(below, leaks...) >= 0 }

// above reports whether all of a vacuum is greater than all that is read, and below whether it is less.
func above(vacuum, reading api.Range) bool { return vacuum.Low > reading.High }

func below(vacuum, reading api.Range) bool { return vacuum.High < reading.Low }

// apart reports whether a vacuum and what is read have no number in common.
func apart(vacuum, reading api.Range) bool { return above(vacuum, reading) || below(vacuum, reading) }
