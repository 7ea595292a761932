package line

import (
	"slices"

	"spile/api"
)

// planner is tubing whose bores are chosen, with its loads and with what is known of its places.
type planner struct {
	api.Net
	loads    []api.Range
	bores    []api.Bore
	need     int
	children [][]int
	choices  map[place]choice
}

// place is a node, and the vacuum at its parent.
type place struct {
	node, vacuum int
}

// choice is the number of a bore, and what this pipe and all pipes behind it cost; it is enough if the vacuum is.
type choice struct {
	number, cost int
	enough       bool
}

// Plan returns the cheapest bores with which the vacuum is enough.
func Plan(n api.Net, flows []api.Range, choices []api.Bore, need int) (bores []int, cost int, e api.Errno) {
	if e := checkFlows(n, flows); e != api.OK {
		return nil, 0, e
	}
	if e := checkChoices(choices, need); e != api.OK {
		return nil, 0, e
	}
	p := newPlanner(n, flows, choices, need)
	cost, enough := p.costBehind(0, p.Pump)
	if !enough {
		return nil, 0, api.ErrNone
	}
	return p.list(), cost, api.OK
}

// checkChoices returns the error of bores to choose from, and of the vacuum that is needed.
func checkChoices(choices []api.Bore, need int) api.Errno {
	if len(choices) > api.MaxChoices {
		return api.ErrLong
	}
	wrong := func(b api.Bore) bool {
		return !in(b.Size, api.MinBore, api.MaxBore) || !in(b.Price, 0, api.MaxPrice)
	}
	if len(choices) == 0 || slices.ContainsFunc(choices, wrong) {
		return api.ErrArg
	}
	if !in(need, 0, api.MaxVacuum) {
		return api.ErrRange
	}
	return api.OK
}

// newPlanner returns the planner of valid tubing.
func newPlanner(n api.Net, flows []api.Range, bores []api.Bore, need int) *planner {
	p := &planner{
		Net:      n,
		loads:    loads(n, flows),
		bores:    bores,
		need:     need,
		children: make([][]int, len(n.Pipes)),
		choices:  map[place]choice{},
	}
	for node := 1; node < len(p.Pipes); node++ {
		parent := p.Pipes[node].Parent
		p.children[parent] = append(p.children[parent], node)
	}
	return p
}

// choose returns the first one of the cheapest bores of a pipe with which there is vacuum enough, there and behind it.
func (p *planner) choose(at place) (best choice) {
	if known, ok := p.choices[at]; ok {
		return known
	}
	defer func() { p.choices[at] = best }()
	for number := range p.bores {
		cost, enough := p.costWith(at, number)
		if enough && (!best.enough || cost < best.cost) {
			best = choice{number: number, cost: cost, enough: true}
		}
	}
	return best
}

// costWith returns what a pipe with a bore, and the cheapest pipes behind it, cost, if they are enough.
func (p *planner) costWith(at place, number int) (cost int, enough bool) {
	vacuum := p.vacuumWith(at, number)
	if p.Pipes[at.node].Taps > 0 && vacuum < p.need {
		return 0, false
	}
	cost, enough = p.costBehind(at.node, vacuum)
	return cost + p.Pipes[at.node].Length*p.bores[number].Price, enough
}

// vacuumWith returns the vacuum that a node surely has if its pipe has a bore.
func (p *planner) vacuumWith(at place, number int) int {
	pipe := p.Pipes[at.node]
	pipe.Bore = p.bores[number].Size
	return vacuumBehind(pipe, at.vacuum, p.loads[at.node].High)
}

// costBehind returns what the cheapest pipes behind a node with a vacuum cost, if any are enough.
func (p *planner) costBehind(node, vacuum int) (cost int, enough bool) {
	for _, child := range p.children[node] {
		best := p.choose(place{node: child, vacuum: vacuum})
		if !best.enough {
			return 0, false
		}
		cost += best.cost
	}
	return cost, true
}

// list returns the numbers of the bores. What is behind a node depends only on the vacuum there, so the first choice at each node makes the smallest one of the cheapest lists.
func (p *planner) list() []int {
	var numbers []int
	vacuum := []int{p.Pump}
	for node := 1; node < len(p.Pipes); node++ {
		at := place{node: node, vacuum: vacuum[p.Pipes[node].Parent]}
		number := p.choose(at).number
		numbers = append(numbers, number)
		vacuum = append(vacuum, p.vacuumWith(at, number))
	}
	return numbers
}
