package line_test

import (
	"fmt"
	"slices"
	"testing"

	"spile/api"
	"spile/line"
)

// goodNets are at the limits, badNets one step beyond one of them.
func goodNets() map[string]api.Net {
	good := map[string]api.Net{
		"pump alone":   net(0),
		"great vacuum": net(10000),
		"chain":        chain(60),
		"star":         star(60),
		"least":        net(0, pipe(0, 1, 4, -10000, 0)),
		"greatest":     net(10000, pipe(0, 100000, 80, 10000, 1000), pipe(1, 100000, 80, 10000, 1000)),
	}
	for name, change := range map[string]func(n *api.Net){
		"usual":        func(n *api.Net) {},
		"no vacuum":    func(n *api.Net) { n.Pump = 0 },
		"last parent":  func(n *api.Net) { n.Pipes[4].Parent = 3 },
		"first parent": func(n *api.Net) { n.Pipes[4].Parent = 0 },
		"no taps":      func(n *api.Net) { n.Pipes[2].Taps, n.Pipes[3].Taps, n.Pipes[4].Taps = 0, 0, 0 },
	} {
		good[name] = bushWith(change)
	}
	return good
}

func badNets() map[string]api.Net {
	bad := map[string]api.Net{
		"zero":          {},
		"no nodes":      {Pump: 8000, Pipes: []api.Pipe{}},
		"61 in a chain": chain(61),
		"61 in a star":  star(61),
		"zero pump":     {Pipes: make([]api.Pipe, 1)},
		"zero pipes":    {Pipes: make([]api.Pipe, 3)},
	}
	for name, change := range map[string]func(n *api.Net){
		"vacuum below 0": func(n *api.Net) { n.Pump = -1 },
		"vacuum above":   func(n *api.Net) { n.Pump = 10001 },
		"pump's parent":  func(n *api.Net) { n.Pipes[0].Parent = -2 },
		"pump has one":   func(n *api.Net) { n.Pipes[0].Parent = 0 },
		"pump's length":  func(n *api.Net) { n.Pipes[0].Length = 1 },
		"pump's bore":    func(n *api.Net) { n.Pipes[0].Bore = 4 },
		"pump's drop":    func(n *api.Net) { n.Pipes[0].Drop = -1 },
		"pump's taps":    func(n *api.Net) { n.Pipes[0].Taps = 1 },
		"no parent":      func(n *api.Net) { n.Pipes[1].Parent = -1 },
		"own parent":     func(n *api.Net) { n.Pipes[1].Parent = 1 },
		"last is own":    func(n *api.Net) { n.Pipes[4].Parent = 4 },
		"later parent":   func(n *api.Net) { n.Pipes[2].Parent = 3 },
		"no such parent": func(n *api.Net) { n.Pipes[4].Parent = 5 },
		"last has none":  func(n *api.Net) { n.Pipes[4].Parent = -1 },
		"length 0":       func(n *api.Net) { n.Pipes[1].Length = 0 },
		"length above":   func(n *api.Net) { n.Pipes[4].Length = 100001 },
		"bore below":     func(n *api.Net) { n.Pipes[4].Bore = 3 },
		"bore above":     func(n *api.Net) { n.Pipes[1].Bore = 81 },
		"drop below":     func(n *api.Net) { n.Pipes[2].Drop = -10001 },
		"drop above":     func(n *api.Net) { n.Pipes[2].Drop = 10001 },
		"taps below 0":   func(n *api.Net) { n.Pipes[3].Taps = -1 },
		"taps above":     func(n *api.Net) { n.Pipes[3].Taps = 1001 },
		"second pump":    func(n *api.Net) { n.Pipes[1] = n.Pipes[0] },
	} {
		bad[name] = bushWith(change)
	}
	return bad
}

// checkError asks all functions with tubing, with whatever else is wrong, for the error of the tubing, and for those that need nothing more for their answer.
func checkError(t *testing.T, what string, n api.Net, want api.Errno) {
	t.Helper()
	same(t, what, 0, line.Check(n), 0, want)
	h, e := line.Heights(n)
	same(t, "Heights: "+what, len(h) > 0, e, want == api.OK, want)
	c, e := line.Climbs(n)
	same(t, "Climbs: "+what, len(c) > 0, e, want == api.OK, want)
	if want == api.OK {
		return
	}
	wrong := []int{-1}
	way, e := line.Way(n, -1)
	sameList(t, "Way: "+what, way, e, nil, want)
	behind, e := line.Behind(n, -1)
	sameList(t, "Behind: "+what, behind, e, nil, want)
	between, e := line.Between(n, 99, -1)
	same(t, "Between: "+what, between, e, 0, want)
	loads, e := line.Loads(n, just(-1), wrong)
	sameList(t, "Loads: "+what, loads, e, nil, want)
	vacuum, e := line.Vacuum(n, just(-1), wrong)
	sameList(t, "Vacuum: "+what, vacuum, e, nil, want)
	surely, possibly, e := line.Tight(n, just(-1), nil)
	sameList(t, "Tight: "+what, append(surely, possibly...), e, nil, want)
	bores, cost, e := line.Plan(n, just(-1), nil, -1)
	sameList(t, "Plan: "+what, append(bores, cost), e, []int{0}, want)
	kept, numbers, e := line.Cut(n, -1)
	sameNet(t, "Cut: "+what, kept, e, api.Net{}, want)
	sameList(t, "Cut: "+what, numbers, e, nil, want)
	grown, e := line.Graft(n, -1, bush())
	sameNet(t, "Graft: "+what, grown, e, api.Net{}, want)
}

func TestP3_1Check(t *testing.T) {
	for name, n := range goodNets() {
		checkError(t, name, n, api.OK)
	}
	for name, n := range badNets() {
		checkError(t, name, n, api.ErrArg)
	}
}

func TestP3_1Nodes(t *testing.T) {
	for _, n := range []api.Net{net(5), bush(), chain(60)} {
		last := len(n.Pipes) - 1
		for _, node := range []int{0, last} {
			if _, e := line.Way(n, node); e != api.OK {
				t.Error("Way", node, e)
			}
			if _, e := line.Behind(n, node); e != api.OK {
				t.Error("Behind", node, e)
			}
			if _, e := line.Between(n, node, last-node); e != api.OK {
				t.Error("Between", node, e)
			}
		}
		for _, node := range []int{-1, last + 1, low, high} {
			way, e := line.Way(n, node)
			sameList(t, fmt.Sprint("Way of ", node), way, e, nil, api.ErrNone)
			behind, e := line.Behind(n, node)
			sameList(t, fmt.Sprint("Behind ", node), behind, e, nil, api.ErrNone)
			for _, nodes := range [][2]int{{node, 0}, {0, node}, {node, node}} {
				between, e := line.Between(n, nodes[0], nodes[1])
				same(t, fmt.Sprint("Between ", nodes), between, e, 0, api.ErrNone)
			}
		}
	}
}

func TestP3_2Ways(t *testing.T) {
	for node, want := range [][]int{{0}, {1, 0}, {2, 1, 0}, {3, 1, 0}, {4, 3, 1, 0}} {
		way, e := line.Way(bush(), node)
		sameList(t, fmt.Sprint("Way of ", node), way, e, want, api.OK)
	}
	for node, want := range [][]int{{0, 1, 2, 3, 4}, {1, 2, 3, 4}, {2}, {3, 4}, {4}} {
		behind, e := line.Behind(bush(), node)
		sameList(t, fmt.Sprint("Behind ", node), behind, e, want, api.OK)
	}
	for a, row := range [][]int{{0, 1000, 1400, 1300, 1500}, {1000, 0, 400, 300, 500}, {1400, 400, 0, 700, 900}, {1300, 300, 700, 0, 200}, {1500, 500, 900, 200, 0}} {
		for b, want := range row {
			between, e := line.Between(bush(), a, b)
			same(t, fmt.Sprint("Between ", a, b), between, e, want, api.OK)
		}
	}
	way, e := line.Way(net(5), 0)
	sameList(t, "Way of the pump alone", way, e, []int{0}, api.OK)
	behind, e := line.Behind(net(5), 0)
	sameList(t, "Behind the pump alone", behind, e, []int{0}, api.OK)
	between, e := line.Between(net(5), 0, 0)
	same(t, "Between the pump and itself", between, e, 0, api.OK)
	long := chain(60)
	for i := range long.Pipes[1:] {
		long.Pipes[i+1].Length = 100000
	}
	between, e = line.Between(long, 59, 0)
	same(t, "Between the ends of the longest tubing", between, e, 5900000, api.OK)
}

func TestP3_2AllWays(t *testing.T) {
	d := dice()
	for range 300 {
		n := anyNet(d, pick(d, 1, 12))
		for a := range n.Pipes {
			way, e := line.Way(n, a)
			sameList(t, fmt.Sprint("Way of ", n, a), way, e, wayOf(n, a), api.OK)
			var from []int
			for b := range n.Pipes {
				if slices.Contains(wayOf(n, b), a) {
					from = append(from, b)
				}
				length := 0
				for node, p := range n.Pipes {
					if slices.Contains(wayOf(n, a), node) != slices.Contains(wayOf(n, b), node) {
						length += p.Length
					}
				}
				between, e := line.Between(n, a, b)
				same(t, fmt.Sprint("Between ", n, a, b), between, e, length, api.OK)
			}
			behind, e := line.Behind(n, a)
			sameList(t, fmt.Sprint("Behind ", n, a), behind, e, from, api.OK)
		}
	}
}

// drops returns a chain of nodes with such drops, from the node 1 on.
func drops(l ...int) api.Net {
	n := net(5)
	for i, drop := range l {
		n.Pipes = append(n.Pipes, pipe(i, 1, 4, drop, 0))
	}
	return n
}

func TestP3_3Heights(t *testing.T) {
	for i, c := range []struct {
		n               api.Net
		heights, climbs []int
	}{
		{net(5), []int{0}, []int{0}},
		{bush(), []int{0, 500, 470, 600, 650}, []int{0, 0, 30, 0, 0}},
		{drops(7), []int{0, 7}, []int{0, 0}},
		{drops(0), []int{0, 0}, []int{0, 0}},
		{drops(-7), []int{0, -7}, []int{0, 7}},
		// A climb stays for all that comes from behind it, over one pipe or several of them.
		{drops(-7, -5), []int{0, -7, -12}, []int{0, 7, 12}},
		{drops(-7, 20), []int{0, -7, 13}, []int{0, 7, 7}},
		{drops(20, -7), []int{0, 20, 13}, []int{0, 0, 7}},
		{drops(20, -7, 3, -4), []int{0, 20, 13, 16, 12}, []int{0, 0, 7, 7, 8}},
		// The node with the climb need not be next to the lowest one before it.
		{drops(30, -5, 3, -4), []int{0, 30, 25, 28, 24}, []int{0, 0, 5, 5, 6}},
		{drops(-9, 12, -6, 8, -3), []int{0, -9, 3, -3, 5, 2}, []int{0, 9, 9, 9, 9, 9}},
		{drops(-10000, -10000, 10000), []int{0, -10000, -20000, -10000}, []int{0, 10000, 20000, 20000}},
		// Other branches play no part.
		{net(5, pipe(0, 1, 4, 50, 0), pipe(0, 1, 4, -50, 0), pipe(1, 1, 4, -10, 0), pipe(2, 1, 4, 10, 0)), []int{0, 50, -50, 40, -40}, []int{0, 0, 50, 10, 50}},
	} {
		h, e := line.Heights(c.n)
		sameList(t, fmt.Sprint("Heights ", i), h, e, c.heights, api.OK)
		l, e := line.Climbs(c.n)
		sameList(t, fmt.Sprint("Climbs ", i), l, e, c.climbs, api.OK)
	}
}

func TestP3_3AllHeights(t *testing.T) {
	d := dice()
	for range 500 {
		n := anyNet(d, pick(d, 1, 15))
		var heights, climbs []int
		for node := range n.Pipes {
			sum := 0
			for _, at := range wayOf(n, node) {
				sum += n.Pipes[at].Drop
			}
			heights = append(heights, sum)
		}
		for node := range n.Pipes {
			climb, way := 0, wayOf(n, node)
			for i, a := range way {
				for _, b := range way[i:] {
					climb = max(climb, heights[b]-heights[a])
				}
			}
			climbs = append(climbs, climb)
		}
		h, e := line.Heights(n)
		sameList(t, fmt.Sprint("Heights of ", n), h, e, heights, api.OK)
		l, e := line.Climbs(n)
		sameList(t, fmt.Sprint("Climbs of ", n), l, e, climbs, api.OK)
	}
}
