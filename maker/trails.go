package maker

import (
	"spile/api"
	"spile/leak"
)

// trails is the trails of the crews.
type trails struct {
	paths []api.Trail
}

// trail adds a trail.
func (k *trails) trail() command {
	var t api.Trail
	return command{forms{&t.A, &t.B, &t.Minutes}, func() (answer, api.Errno) {
		return add(&k.paths, endless, func(all []api.Trail) api.Errno { return leak.CheckTrails(api.MaxNodes, all) }, t)
	}}
}

// walk tells the shortest walk to stops.
func (k *trails) walk() command {
	var from int
	var stops []int
	return command{forms{&from, &stops}, func() (answer, api.Errno) { return k.walked(from, stops...) }}
}

// walked returns the stops in the order of the shortest walk, and its minutes.
func (k *trails) walked(from int, stops ...int) (answer, api.Errno) {
	order, minutes, e := leak.Walk(api.MaxNodes, k.paths, from, stops, false)
	return several{numbers(order), number(minutes)}, e
}
