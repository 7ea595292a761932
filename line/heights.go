package line

import "spile/api"

// Heights returns how much higher than the pump the nodes are.
func Heights(n api.Net) ([]int, api.Errno) {
	if e := Check(n); e != api.OK {
		return nil, e
	}
	return heights(n), api.OK
}

// Climbs returns the greatest climb on the way from each node to the pump.
func Climbs(n api.Net) ([]int, api.Errno) {
	if e := Check(n); e != api.OK {
		return nil, e
	}
	high := heights(n)
	var climbs []int
	for node := range n.Pipes {
		climb, lowest := 0, high[node]
		for at := range up(n, node) {
			climb = max(climb, high[at]-lowest)
			lowest = min(lowest, high[at])
		}
		climbs = append(climbs, climb)
	}
	return climbs, api.OK
}

// heights returns the heights of the nodes of valid tubing.
func heights(n api.Net) []int {
	high := []int{0}
	for _, p := range n.Pipes[1:] {
		high = append(high, high[p.Parent]+p.Drop)
	}
	return high
}
