package leak

import (
	"slices"

	"spile/api"
)

// Excuse returns for each size the sensor that speaks against a leak at a node.
func Excuse(w api.Watch, node int) ([]int, api.Errno) {
	k, e := watchingNode(w, node)
	if e != api.OK {
		return nil, e
	}
	var excuse []int
	for leak := range k.leaksAt(node) {
		sensor := k.first(apart, leak)
		if sensor < 0 {
			return nil, api.ErrState
		}
		excuse = append(excuse, sensor)
	}
	return excuse, api.OK
}

// Excused reports whether sensors prove that a node does not leak alone.
func Excused(w api.Watch, node int, sensors []int) (bool, api.Errno) {
	k, e := watchingNode(w, node)
	if e != api.OK {
		return false, e
	}
	if len(sensors) != k.Steps {
		return false, api.ErrForm
	}
	if slices.ContainsFunc(sensors, func(n int) bool { return !in(n, 0, len(k.Sensors)-1) }) {
		return false, api.ErrNone
	}
	for leak := range k.leaksAt(node) {
		s := k.Sensors[sensors[leak.Size-1]]
		if !apart(k.vacuum(leak)[s.Node], s.Reading) {
			return false, api.OK
		}
	}
	return true, api.OK
}

// watchingNode returns tubing that is watched, and the error of it and of a node.
func watchingNode(w api.Watch, node int) (*watched, api.Errno) {
	k, e := watching(w)
	if e == api.OK && !k.has(node) {
		e = api.ErrNone
	}
	return k, e
}
