package leak

import (
	"slices"

	"spile/api"
)

// Next returns where one more sensor tells most.
func Next(w api.Watch) (node, left int, e api.Errno) {
	k, e := watching(w)
	if e != api.OK {
		return 0, 0, e
	}
	suspects := k.alone()
	if len(suspects) == 0 {
		return 0, 0, api.ErrNone
	}
	left = len(suspects) + 1
	for at := range k.Net.Pipes {
		if k.hasSensor(at) {
			continue
		}
		if most := k.mostAt(at, suspects); most < left {
			node, left = at, most
		}
	}
	if left > len(suspects) {
		return 0, 0, api.ErrFull
	}
	return node, left, api.OK
}

// hasSensor reports whether there is a sensor at a node.
func (k *watched) hasSensor(node int) bool {
	return slices.ContainsFunc(k.Sensors, func(s api.Sensor) bool { return s.Node == node })
}

// alone returns for each node that can leak alone the leaks there that fit.
func (k *watched) alone() [][]api.Leak {
	var suspects [][]api.Leak
	for node := range k.Net.Pipes {
		var fitting []api.Leak
		for leak := range k.leaksAt(node) {
			if k.fit(leak) {
				fitting = append(fitting, leak)
			}
		}
		if len(fitting) > 0 {
			suspects = append(suspects, fitting)
		}
	}
	return suspects
}

// mostAt returns the greatest number of suspects that allow the same value at a node.
func (k *watched) mostAt(node int, suspects [][]api.Leak) int {
	vacuums := make([][]api.Range, len(suspects))
	for i, fitting := range suspects {
		for _, leak := range fitting {
			vacuums[i] = append(vacuums[i], k.vacuum(leak)[node])
		}
	}
	most := 0
	// All ranges that have a value in common have the greatest one of their low ends in common, too.
	for _, v := range slices.Concat(vacuums...) {
		most = max(most, allowing(v.Low, vacuums))
	}
	return most
}

// allowing returns how many lists have a range in which a value is.
func allowing(value int, vacuums [][]api.Range) int {
	count := 0
	for _, l := range vacuums {
		if slices.ContainsFunc(l, func(v api.Range) bool { return in(value, v.Low, v.High) }) {
			count++
		}
	}
	return count
}
