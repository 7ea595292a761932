package leak

import (
	"slices"

	"spile/api"
)

// far is more minutes than any crew walks and works: that of a way that there is not.
const far = 1 << 40

// land is nodes with the fewest minutes from each to each other one: by one trail, and by all trails.
type land struct {
	by, all [][]int
}

// CheckTrails returns the error of trails.
func CheckTrails(nodes int, l []api.Trail) api.Errno {
	if len(l) > api.MaxTrails {
		return api.ErrLong
	}
	wrong := func(t api.Trail) bool {
		return !in(t.A, 0, nodes-1) || !in(t.B, 0, nodes-1) || t.A == t.B || !in(t.Minutes, 1, api.MaxMinutes)
	}
	if !in(nodes, 1, api.MaxNodes) || slices.ContainsFunc(l, wrong) {
		return api.ErrArg
	}
	return api.OK
}

// Path returns the shortest way.
func Path(nodes int, l []api.Trail, from, to int) (way []int, minutes int, e api.Errno) {
	if e := CheckTrails(nodes, l); e != api.OK {
		return nil, 0, e
	}
	if !in(from, 0, nodes-1) || !in(to, 0, nodes-1) {
		return nil, 0, api.ErrNone
	}
	d := newLand(nodes, l...)
	if d.all[from][to] >= far {
		return nil, 0, api.ErrState
	}
	return d.way(from, to), d.all[from][to], api.OK
}

// newLand returns the land of valid trails.
func newLand(nodes int, l ...api.Trail) *land {
	d := &land{}
	for range nodes {
		d.by = append(d.by, slices.Repeat([]int{far}, nodes))
	}
	for _, t := range l {
		least := min(d.by[t.A][t.B], t.Minutes)
		d.by[t.A][t.B], d.by[t.B][t.A] = least, least
	}
	for node, row := range d.by {
		d.all = append(d.all, slices.Clone(row))
		d.all[node][node] = 0
	}
	d.goOver()
	return d
}

// goOver shortens all ways by going over one node after another.
func (d *land) goOver() {
	for over := range d.all {
		for a := range d.all {
			for b := range d.all {
				d.all[a][b] = min(d.all[a][b], d.all[a][over]+d.all[over][b])
			}
		}
	}
}

// way returns the nodes of the smallest one of the shortest ways to a node that can be reached.
func (d *land) way(from, to int) []int {
	way := []int{from}
	for at := from; at != to; {
		at = d.next(at, to)
		way = append(way, at)
	}
	return way
}

// next returns the first node that can be the next one on a shortest way to another node that can be reached.
func (d *land) next(at, to int) int {
	node := 0
	for d.by[at][node]+d.all[node][to] != d.all[at][to] {
		node++
	}
	return node
}
